/- Small texts, laid together. -/
import Derived.Test.YtddgfbmollfmeaaDoorZB2
import Derived.Test.YtddgfbmollfmeaaDoorZIMatch
import Derived.Test.YtddgfbmollfmeaaDoorZIRingLast
set_option linter.unusedSimpArgs false
set_option linter.unusedVariables false
/- slices.IndexFunc and slices.DeleteFunc at messages, with LatestOf's closure. -/
namespace Go.Proofs.YtddgfbmollfmeaaDoor
open Go.RowKit

/-- Does it go? -/
def goesM (f : ByteArray) (x : MsgM) : Bool := !matchB f x.2.2.1

set_option maxRecDepth 100000 in
set_option maxHeartbeats 1600000 in
theorem latestC_any (x : MsgM) (f : ByteArray) (F : Nat) (m : Int) (w : World) (hx : x.2.2.1.size ≤ 1048576) (hf : f.size ≤ 1048576) (hF : w.cell? ⟨F, 0, none⟩ = some (.string f)) (hm : w.cell? ⟨0, 0, none⟩ = some (.int .i64 m)) :
    Calls Tryd.prog 37 #[magg x, .pointer (some ⟨F, 0, none⟩)] w fun e w' => e = .returned (.bool (goesM f x)) ∧ Below w.heap.size w w' := by
  have CM := Lib.hid (fun w' hm => implMatches_any f x.2.2.1 m w' hf hx hm)
  have HG : Hid (goesM f x = !matchB f x.2.2.1) := rfl
  generalize matchB f x.2.2.1 = b at CM HG
  have HM := Lib.hid hm
  obtain ⟨q, t, p, d⟩ := x
  have ha : Below w.heap.size w (w.alloc (.cells #[.int .i64 q, .int .i64 t, .string p, .int .i64 d] 38)) := (Below.refl _ _).alloc (Nat.le_refl _) _
  have hF2 := (ha.cell (World.block_lt_of_cell? _ _ hF)).trans hF
  clear hm hF
  go_enter Tryd.func37, Tryd.ntmps37
  go_wp2_with fail
  refine (CM.out _ ((ha.cell (World.block_lt_of_cell? _ _ HM.out)).trans HM.out)).mono ?_
  rintro e w1 ⟨rfl, hb⟩
  have HE := Lib.hid (below_end ha hb)
  clear ha hb hF2
  go_wp2
  go_ret
  exact ⟨ret_bool HG.out.symm, HE.out⟩

set_option maxRecDepth 100000 in
set_option maxHeartbeats 3200000 in
theorem indexF_any (u : Value) (l : List MsgM) (f : ByteArray) (F : Nat) (m : Int) (w : World) (hl : l.length ≤ 2000000) (hs : ∀ x ∈ l, x.2.2.1.size ≤ 1048576) (hf : f.size ≤ 1048576) (hv : MsgsAt w u l) (hF : w.cell? ⟨F, 0, none⟩ = some (.string f)) (hm : w.cell? ⟨0, 0, none⟩ = some (.int .i64 m)) :
    Calls Tryd.prog 47 #[u, .func (.func 37) #[] #[.pointer (some ⟨F, 0, none⟩)]] w fun e w' =>
      ∃ z : Int, e = .returned (.int .i64 z) ∧ ((z = -1 ∧ ∀ x ∈ l, goesM f x = false) ∨ ∃ k : Nat, z = k ∧ ∃ h : k < l.length, goesM f l[k] = true ∧ ∀ j (hj : j < k), goesM f (l[j]'(by omega)) = false) ∧ Below w.heap.size w w' := by
  obtain ⟨a, c, rfl, hc1, hc2, hc3⟩ := hv
  have HC := Lib.hid hc3
  have HS := Lib.hid hs
  have HM := Lib.hid hm
  have HF := Lib.hid hF
  clear hc3 hs hm hF
  go_enter Tryd.func47, Tryd.ntmps47
  go_wp2
  go_loopw [8] (fun i wr => ∃ k : Nat, k ≤ l.length ∧ i = .int .i64 k ∧ Hid (∀ j (hj : j < k) (hk : j < l.length), goesM f l[j] = false) ∧ Hid (Below w.heap.size w wr)) (fun i _ => l.length - (intOf i).toNat)
  case atStart => exact ⟨0, Nat.zero_le _, rfl, Lib.hid (fun j hj => absurd hj (Nat.not_lt_zero _)), Below.refl _ _⟩
  case round =>
    obtain ⟨k, hk, rfl, HT, HB⟩ := hrel
    by_cases hlt : k < l.length
    · obtain ⟨b, o, rfl, hin⟩ : ∃ b o, a = some ⟨b, o, none⟩ ∧ MsgsIn w b o l := by
        rcases HC.out with h | h
        · subst h; simp at hlt
        · exact h
      obtain ⟨p0, p1, p2, p3⟩ := (hin.below HB.out) k hlt
      have CX := Lib.hid (fun wx hF hm => latestC_any l[k] f F m wx (HS.out _ (List.getElem_mem hlt)) hf hF hm)
      have HG : Hid (goesM f l[k] = true → (∃ kk : Nat, (k : Int) = kk ∧ ∃ h : kk < l.length, goesM f l[kk] = true ∧ ∀ j (hj : j < kk), goesM f (l[j]'(by omega)) = false)) := Lib.hid (fun h => ⟨k, rfl, hlt, h, fun j hj => HT.out j hj (by omega)⟩)
      have HN : Hid (goesM f l[k] = false → ∀ j (hj : j < k + 1) (hk : j < l.length), goesM f l[j] = false) := Lib.hid (fun h j hj hk => by
        rcases Nat.lt_or_ge j k with h1 | h1
        · exact HT.out j h1 hk
        · have : j = k := by omega
          subst this; exact h)
      generalize goesM f l[k] = gb at CX HG HN
      generalize l[k] = x at p0 p1 p2 p3 CX
      obtain ⟨q, t, p, d⟩ := x
      clear hin HT
      cases gb
      · have HT := Lib.hid (HN.out (by trivial))
        go_wp2_with (go_at_call 37; refine (CX.out _ ((HB.out.cell (World.block_lt_of_cell? _ _ HF.out)).trans HF.out) ((HB.out.cell (World.block_lt_of_cell? _ _ HM.out)).trans HM.out)).mono ?_; rintro e w1 ⟨rfl, hb⟩; have B1 := Lib.hid (below_end HB.out hb); clear hb p0 p1 p2 p3)
        go_roundw
        case rel => exact ⟨k + 1, by omega, by go_num, HT, B1⟩
        case measure => simp [intOf]; omega
      · have HT := Lib.hid (HG.out (by trivial))
        go_wp2_with (go_at_call 37; refine (CX.out _ ((HB.out.cell (World.block_lt_of_cell? _ _ HF.out)).trans HF.out) ((HB.out.cell (World.block_lt_of_cell? _ _ HM.out)).trans HM.out)).mono ?_; rintro e w1 ⟨rfl, hb⟩; have B1 := Lib.hid (below_end HB.out hb); clear hb p0 p1 p2 p3)
        go_ret
        exact ⟨_, rfl, .inr HT.out, B1.out⟩
    · obtain rfl : k = l.length := by omega
      go_wp2
      go_ret
      exact ⟨-1, rfl, .inl ⟨rfl, fun x hx => by obtain ⟨j, hj, rfl⟩ := List.mem_iff_getElem.1 hx; exact HT.out j hj hj⟩, HB.out⟩

end Go.Proofs.YtddgfbmollfmeaaDoor

/- slices.DeleteFunc at messages, with LatestOf's closure. -/
namespace Go.Proofs.YtddgfbmollfmeaaDoor
open Go.RowKit

/-- Those that stay. -/
def stays (f : ByteArray) (l : List MsgM) : List MsgM := l.filter fun x => !goesM f x

theorem stays_all {f : ByteArray} {l : List MsgM} (h : ∀ x ∈ l, goesM f x = false) : stays f l = l := by
  unfold stays
  rw [List.filter_eq_self]
  intro x hx; rw [h x hx]; rfl

theorem stays_succ (f : ByteArray) (l : List MsgM) (j : Nat) (h : j < l.length) : stays f (l.take (j + 1)) = stays f (l.take j) ++ (if goesM f l[j] then [] else [l[j]]) := by
  rw [List.take_succ_eq_append_getElem h]
  unfold stays
  rw [List.filter_append]
  cases e : goesM f l[j] <;> simp [e]

/-- A message laid over the cells from a on. -/
def putA (w : World) (g a : Nat) (x : MsgM) : World :=
  (((w.setCell ⟨g, a, none⟩ (.int .i64 x.1)).setCell ⟨g, a + 1, none⟩ (.int .i64 x.2.1)).setCell ⟨g, a + 2, none⟩ (.string x.2.2.1)).setCell ⟨g, a + 3, none⟩ (.int .i64 x.2.2.2)

theorem putA_grown (w : World) (g a : Nat) (x : MsgM) : w.grownBy (putA w g a x) (some g) :=
  grown_trans (grown_trans (grown_trans (grown_setCell _ _ _ _) (grown_setCell _ _ _ _)) (grown_setCell _ _ _ _)) (grown_setCell _ _ _ _)

theorem put_mid {w : World} {B g N C a : Nat} {pre F mid rest post : List MsgM} {y z x : MsgM} (h : MOwn w B (.slice (some ⟨g, 0, none⟩) N C) (pre ++ (F ++ (z :: mid) ++ (y :: rest)) ++ post)) (ha : a = pre.length * 4 + F.length * 4) :
    MOwn (putA w g a x) B (.slice (some ⟨g, 0, none⟩) N C) (pre ++ ((F ++ [x]) ++ (mid ++ [y]) ++ rest) ++ post) := by
  obtain ⟨_, _, e⟩ := own_slice h
  have hN : N = (pre ++ (F ++ (z :: mid) ++ (y :: rest)) ++ post).length := by cases e; rfl
  have h2 := MOwn.put (k := pre.length + F.length) x h hN (by simp only [List.length_append, List.length_cons]; omega)
  have e2 : (pre ++ (F ++ (z :: mid) ++ (y :: rest)) ++ post).set (pre.length + F.length) x = pre ++ ((F ++ [x]) ++ (mid ++ [y]) ++ rest) ++ post := by
    simp only [List.append_assoc, List.cons_append, List.singleton_append, List.nil_append]
    rw [List.set_append_right _ _ (by omega), List.set_append_right _ _ (by omega), show pre.length + F.length - pre.length - F.length = 0 by omega]
    rfl
  rw [e2] at h2
  have e3 : put4 w g (pre.length + F.length) x = putA w g a x := by
    unfold put4 putA
    rw [ha, show (pre.length + F.length) * 4 = pre.length * 4 + F.length * 4 by omega]
  rw [← e3]; exact h2

/-- What lies where, in the middle of it. -/
structure Delling (f : ByteArray) (w wr : World) (B : Nat) (g N C : Nat) (pre l post : List MsgM) (i j : Nat) : Prop where
  grown : w.grownBy wr (some g)
  mid : ∃ mid : List MsgM, MOwn wr B (.slice (some ⟨g, 0, none⟩) N C) (pre ++ (stays f (l.take j) ++ mid ++ l.drop j) ++ post) ∧ mid.length + i = j ∧ (stays f (l.take j)).length = i ∧ i < j

theorem Delling.below {f : ByteArray} {w wr wx : World} {B g N C : Nat} {pre l post : List MsgM} {i j : Nat} (h : Delling f w wr B g N C pre l post i j) (hb : Below wr.heap.size wr wx) : Delling f w wx B g N C pre l post i j := by
  obtain ⟨mid, h1, h2⟩ := h.mid
  exact ⟨grown_trans h.grown (grown_below hb), mid, row_below h1 hb, h2⟩

/-- One that goes is passed over. -/
theorem Delling.skip {f : ByteArray} {w wr : World} {B g N C : Nat} {pre l post : List MsgM} {i j : Nat} (h : Delling f w wr B g N C pre l post i j) (hj : j < l.length) (hg : goesM f l[j] = true) : Delling f w wr B g N C pre l post i (j + 1) := by
  obtain ⟨mid, h1, h2, h3, h4⟩ := h.mid
  refine ⟨h.grown, mid ++ [l[j]], ?_, by simp; omega, ?_, by omega⟩
  · rw [stays_succ f l j hj, hg]
    rw [List.drop_eq_getElem_cons hj] at h1
    simpa using h1
  · rw [stays_succ f l j hj, hg]; simpa using h3

/-- One that stays is laid where there is room. -/
theorem Delling.keep {f : ByteArray} {w wr : World} {B g N C a : Nat} {pre l post : List MsgM} {i j : Nat} (h : Delling f w wr B g N C pre l post i j) (hj : j < l.length) (hg : goesM f l[j] = false) (ha : a = pre.length * 4 + i * 4) :
    Delling f w (putA wr g a l[j]) B g N C pre l post (i + 1) (j + 1) := by
  obtain ⟨mid, h1, h2, h3, h4⟩ := h.mid
  match mid, h2 with
  | [], h2 => simp at h2; omega
  | z :: mid, h2 =>
    rw [List.drop_eq_getElem_cons hj] at h1
    have h5 := put_mid (a := a) (x := l[j]) h1 (by rw [h3]; exact ha)
    refine ⟨grown_trans h.grown (putA_grown _ _ _ _), mid ++ [l[j]], ?_, by simp only [List.length_append, List.length_cons, List.length_nil] at h2 ⊢; omega, ?_, by omega⟩
    · rw [stays_succ f l j hj, hg, if_neg (by simp)]
      exact h5
    · rw [stays_succ f l j hj, hg]; simp [h3]

theorem Delling.start {f : ByteArray} {w wr : World} {B g N C k : Nat} {pre l post : List MsgM} (ho : MOwn wr B (.slice (some ⟨g, 0, none⟩) N C) (pre ++ l ++ post)) (hg : w.grownBy wr (some g)) (hk : k < l.length) (h1 : goesM f l[k] = true) (h2 : ∀ j (hj : j < k), goesM f (l[j]'(by omega)) = false) :
    Delling f w wr B g N C pre l post k (k + 1) := by
  have e : stays f (l.take k) = l.take k := stays_all (fun x hx => by
    obtain ⟨j, hj, rfl⟩ := List.mem_iff_getElem.1 hx
    have hj2 : j < k := by simp at hj; omega
    rw [List.getElem_take]; exact h2 j hj2)
  refine ⟨hg, [l[k]], ?_, by simp; omega, ?_, by omega⟩
  · rw [stays_succ f l k hk, h1, e]
    have : l.take k ++ [] ++ [l[k]] ++ l.drop (k + 1) = l := by
      rw [List.append_nil, ← List.take_succ_eq_append_getElem hk, List.take_append_drop]
    simp only [↓reduceIte]
    rw [this]; exact ho
  · rw [stays_succ f l k hk, h1, e]; simp; omega

/-- The cells of the one at hand. -/
theorem Delling.at {f : ByteArray} {w wr : World} {B g N C o : Nat} {pre l post : List MsgM} {i j : Nat} (h : Delling f w wr B g N C pre l post i j) (hj : j < l.length) (ho : o = pre.length * 4) : MsgIn wr g (o + j * 4) l[j] := by
  obtain ⟨mid, h1, h2, h3, h4⟩ := h.mid
  obtain ⟨_, _, e⟩ := own_slice h1
  cases e
  have hlen : (stays f (l.take j) ++ mid).length = j := by simp; omega
  have hp := part_at (pre := pre ++ (stays f (l.take j) ++ mid)) (l := l.drop j) (post := post) (u := .slice (some ⟨g, o + j * 4, none⟩) (l.drop j).length (l.drop j).length) (V := .slice (some ⟨g, 0, none⟩) (pre ++ (stays f (l.take j) ++ mid ++ l.drop j) ++ post).length C) (B := B) (w := wr) (by
    have e2 : pre ++ (stays f (l.take j) ++ mid) ++ l.drop j ++ post = pre ++ (stays f (l.take j) ++ mid ++ l.drop j) ++ post := by simp only [List.append_assoc]
    rw [e2]; exact h1) (.inr ⟨g, o + j * 4, _, C, _, rfl, rfl, Nat.le_refl _, by
      have h6 := own_max h1; have h7 := own_cap2 h1; have h8 : (l.drop j).length ≤ (pre ++ (stays f (l.take j) ++ mid ++ l.drop j) ++ post).length := by simp; omega
      omega, .inr (by rw [List.length_append, hlen]; omega)⟩)
  obtain ⟨a, c, e3, _, _, h5⟩ := hp
  cases e3
  rcases h5 with h5 | ⟨b, o2, e4, h6⟩
  · have := congrArg List.length h5; simp at this; omega
  · cases e4
    have h7 := h6 0 (by simp; omega)
    simp only [Nat.zero_mul, Nat.add_zero, List.getElem_drop] at h7
    exact h7

end Go.Proofs.YtddgfbmollfmeaaDoor

/- The walk of slices.DeleteFunc at messages, with LatestOf's closure. -/
namespace Go.Proofs.YtddgfbmollfmeaaDoor
open Go.RowKit

/-- The cells that are written. -/
theorem Delling.room {f : ByteArray} {w wr : World} {B g N C o : Nat} {pre l post : List MsgM} {i j : Nat} (h : Delling f w wr B g N C pre l post i j) (hj : j ≤ l.length) (ho : o = pre.length * 4) :
    (∀ t, t < 4 → ∃ u, wr.cell? ⟨g, o + i * 4 + t, none⟩ = some u) ∧ ∀ t, wr.frozen? ⟨g, t, none⟩ = false := by
  obtain ⟨mid, h1, h2, h3, h4⟩ := h.mid
  obtain ⟨_, _, e⟩ := own_slice h1
  cases e
  refine ⟨fun t ht => ?_, fun t => h1.frozenAt t⟩
  have hlen : (pre ++ (stays f (l.take j) ++ mid ++ l.drop j) ++ post).length = pre.length + l.length + post.length := by simp; omega
  exact ⟨_, (h1.cellAt _ (by omega)).trans (List.getElem?_eq_getElem (by rw [mcells_length]; omega))⟩

set_option maxRecDepth 100000 in
set_option maxHeartbeats 6400000 in
theorem deleteF_any (V u : Value) (pre l post : List MsgM) (f : ByteArray) (F B : Nat) (m : Int) (w : World) (hl : l.length ≤ 2000000) (hs : ∀ x ∈ l, x.2.2.1.size ≤ 1048576) (hf : f.size ≤ 1048576) (ho : MOwn w B V (pre ++ l ++ post)) (hpt : PartOf V pre.length l.length u)
    (hF : w.cell? ⟨F, 0, none⟩ = some (.string f)) (hFB : F < B) (hm : w.cell? ⟨0, 0, none⟩ = some (.int .i64 m)) (hMB : 0 < B) (hB : B ≤ w.heap.size) :
    Calls Tryd.prog 35 #[u, .func (.func 37) #[] #[.pointer (some ⟨F, 0, none⟩)]] w fun e w' =>
      ∃ u' post', e = .returned u' ∧ MOwn w' B V (pre ++ stays f l ++ post') ∧ PartOf V pre.length (stays f l).length u' ∧ Below B w w' := by
  have CI := Lib.hid (indexF_any u l f F m w hl hs hf (part_at ho hpt) hF hm)
  have HS := Lib.hid hs
  have HF := Lib.hid hF
  have HM := Lib.hid hm
  have HO := Lib.hid ho
  have HP := Lib.hid hpt
  have HBB := Lib.hid (show F < B ∧ 0 < B ∧ B ≤ w.heap.size from ⟨hFB, hMB, hB⟩)
  obtain ⟨ua, uc, rfl⟩ := hpt.slice
  clear hs hF hm ho hFB hMB hB
  go_enter Tryd.func35, Tryd.ntmps35
  go_wp2_with fail
  refine CI.out.mono ?_
  rintro e w1 ⟨z, rfl, hz, hb⟩
  have HB1 := Lib.hid hb
  clear CI hb
  rcases hz with ⟨rfl, hall⟩ | ⟨k0, rfl, hk0, hg0, hlt0⟩
  · go_wp2
    go_ret
    exact ⟨_, post, rfl, by rw [stays_all hall]; exact row_below HO.out HB1.out, by rw [stays_all hall]; exact HP.out, HB1.out.mono HBB.out.2.2⟩
  obtain ⟨g, o, C, N, rfl, rfl, hlc, hcm, ho⟩ : ∃ g o C N, V = .slice (some ⟨g, 0, none⟩) N C ∧ ua = some ⟨g, o, none⟩ ∧ l.length ≤ uc ∧ uc ≤ maxLen ∧ o = pre.length * 4 := by
    rcases HP.out with ⟨_, _, h0⟩ | ⟨g, o, c, C, N, h1, h2, h3, h4, h5⟩
    · omega
    · cases h2
      exact ⟨g, o, C, N, h1, rfl, h3, h4, by omega⟩
  have HOO := Lib.hid ho
  have HD := Lib.hid (Delling.start (f := f) (w := w) (row_below HO.out HB1.out) (grown_below HB1.out) hk0 hg0 hlt0)
  have HBG : Hid (B ≤ g) := Lib.hid (HO.out.lt g rfl).1
  have g1 : ((k0 : Int) == -1) = false := by rw [beq_eq_false_iff_ne]; omega
  unfold maxLen at hcm
  clear ho hlt0 hg0 hpt
  go_wp2
  go_loopw [5, 6] (fun s5 s6 wr => ∃ i j : Nat, s5 = .int .i64 i ∧ s6 = .int .i64 j ∧ j ≤ l.length ∧ i < j ∧ Hid (Delling f w wr B g N C pre l post i j)) (fun _ s6 _ => l.length - (intOf s6).toNat)
  case atStart => exact ⟨k0, k0 + 1, rfl, by go_num, by omega, by omega, HD⟩
  case round =>
    obtain ⟨i, j, rfl, rfl, hj, hij, HR⟩ := hrel
    by_cases hlt : j < l.length
    · obtain ⟨p0, p1, p2, p3⟩ := HR.out.at hlt HOO.out
      have CX := Lib.hid (fun wx hF hm => latestC_any l[j] f F m wx (HS.out _ (List.getElem_mem hlt)) hf hF hm)
      have HSK := Lib.hid (fun wx (h : Delling f w wx B g N C pre l post i j) => h.skip hlt)
      have HKP := Lib.hid (fun wx (h : Delling f w wx B g N C pre l post i j) hg => h.keep (a := o + i * 4) hlt hg (by rw [HOO.out]))
      generalize goesM f l[j] = gb at CX HSK HKP
      generalize l[j] = x at p0 p1 p2 p3 CX HKP
      obtain ⟨q, t, p, d⟩ := x
      go_wp2_with fail
      have ha : Below wr.heap.size wr (wr.alloc (.cells #[.int .i64 q, .int .i64 t, .string p, .int .i64 d] 38)) := (Below.refl _ _).alloc (Nat.le_refl _) _
      have hbx : (wr.alloc (.cells #[.int .i64 q, .int .i64 t, .string p, .int .i64 d] 38)).heap[wr.heap.size]? = some (.cells #[.int .i64 q, .int .i64 t, .string p, .int .i64 d] 38 (0, 0)) := heap_alloc_new _ _
      have hRa := HR.out.below ha
      have hlr := (Array.getElem?_eq_some_iff.1 hbx).1
      clear p0 p1 p2 p3
      obtain ⟨R, hR⟩ : ∃ R, wr.heap.size = R := ⟨_, rfl⟩
      rw [hR] at hbx hlr ⊢
      generalize wr.alloc (.cells #[.int .i64 q, .int .i64 t, .string p, .int .i64 d] 38) = wx at hbx hRa hlr ⊢
      refine (CX.out _ (cell_grown hRa.grown (by have h1 := HBB.out.1; have h2 := HBG.out; omega) HF.out) (cell_grown hRa.grown (by have h1 := HBB.out.2.1; have h2 := HBG.out; omega) HM.out)).mono ?_
      rintro e w2 ⟨rfl, hb⟩
      have HR2 := Lib.hid (hRa.below hb)
      have hbx2 := (hb.block R hlr).trans hbx
      have c0 := cell_of_heap hbx2 0
      have c1 := cell_of_heap hbx2 1
      have c2 := cell_of_heap hbx2 2
      have c3 := cell_of_heap hbx2 3
      clear hb hRa hbx hbx2 hlr hR CX
      cases gb
      · have HK := Lib.hid (HKP.out w2 HR2.out (by trivial))
        obtain ⟨hex, hfz⟩ := HR2.out.room (by omega) HOO.out
        obtain ⟨z0, y0⟩ := hex 0 (by omega)
        obtain ⟨z1, y1⟩ := hex 1 (by omega)
        obtain ⟨z2, y2⟩ := hex 2 (by omega)
        obtain ⟨z3, y3⟩ := hex 3 (by omega)
        rw [Nat.add_zero] at y0
        have x0 := hfz (o + i * 4)
        have x1 := hfz (o + i * 4 + 1)
        have x2 := hfz (o + i * 4 + 2)
        have x3 := hfz (o + i * 4 + 3)
        have hil : (i : Int) < (l.length : Int) := by omega
        clear hex hfz
        go_wp2
        go_roundw
        case rel => exact ⟨i + 1, j + 1, by go_num, by go_num, by omega, by omega, HK⟩
        case measure => simp [intOf]; omega
      · have HK := Lib.hid (HSK.out w2 HR2.out (by trivial))
        go_wp2
        go_roundw
        case rel => exact ⟨i, j + 1, rfl, by go_num, by omega, by omega, HK⟩
        case measure => simp [intOf]; omega
    · obtain rfl : j = l.length := by omega
      have HROW : Hid (∃ mid : List MsgM, MOwn wr B (.slice (some ⟨g, 0, none⟩) N C) (pre ++ stays f l ++ mid ++ post) ∧ mid.length + i = l.length ∧ (stays f l).length = i) := Lib.hid (by
        obtain ⟨mid, h1, h2, h3, _⟩ := HR.out.mid
        rw [List.take_length, List.drop_length, List.append_nil] at h1
        rw [List.take_length] at h3
        exact ⟨mid, by simpa only [List.append_assoc] using h1, h2, h3⟩)
      have HGR := Lib.hid HR.out.grown
      obtain ⟨mid, HRW, HML, HSL⟩ : ∃ mid : List MsgM, Hid (MOwn wr B (.slice (some ⟨g, 0, none⟩) N C) (pre ++ stays f l ++ mid ++ post)) ∧ Hid (mid.length + i = l.length) ∧ Hid ((stays f l).length = i) := by
        obtain ⟨mid, h1, h2, h3⟩ := HROW.out; exact ⟨mid, Lib.hid h1, Lib.hid h2, Lib.hid h3⟩
      clear HROW
      have hfit : Hid (pre.length + i + (l.length - i) ≤ (pre ++ stays f l ++ mid ++ post).length) := Lib.hid (by have h1 := HML.out; have h2 := HSL.out; simp; omega)
      go_wp2_with (refine wpList_clear_msgs rfl (.tmp 38) rfl B g N (l.length - i) (pre.length + i) (o + i * 4) (uc - i) C _ (by omega) (by simp [Act.eval]) (by have h := HOO.out; omega) HRW.out hfit.out ?_; intro w3 hw3 hg3)
      have HE : Hid (MOwn w3 B (.slice (some ⟨g, 0, none⟩) N C) (pre ++ stays f l ++ (List.replicate (l.length - i) msgZ ++ post))) := Lib.hid (by
        have h1 := HML.out; have h2 := HSL.out
        have e1 : (pre ++ stays f l ++ mid ++ post).take (pre.length + i) = pre ++ stays f l := by
          rw [List.append_assoc, List.take_append_of_le_length (by simp; omega), List.take_of_length_le (by simp; omega)]
        have e2 : (pre ++ stays f l ++ mid ++ post).drop (pre.length + i + (l.length - i)) = post := by
          rw [List.drop_append_of_le_length (by simp; omega), List.drop_of_length_le (by simp; omega), List.nil_append]
        rw [e1, e2] at hw3
        simpa only [List.append_assoc] using hw3)
      have HG3 := Lib.hid (grown_trans HGR.out hg3)
      clear hw3 hg3
      go_wp2
      go_ret
      exact ⟨_, _, rfl, HE.out, .inr ⟨g, o, uc, C, N, rfl, (by rw [HSL.out]; rfl), by have h := HML.out; have h2 := HSL.out; omega, by unfold maxLen; omega, .inr HOO.out⟩, (Below.refl B w).grown HG3.out HBB.out.2.2 (fun k h => by cases h; exact HBG.out)⟩

end Go.Proofs.YtddgfbmollfmeaaDoor
