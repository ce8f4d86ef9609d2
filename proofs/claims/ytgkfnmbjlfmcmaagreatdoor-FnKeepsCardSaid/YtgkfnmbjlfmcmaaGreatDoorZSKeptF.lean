/- The walk of the reference's KeptFor. -/
import Derived.Test.YtgkfnmbjlfmcmaaGreatDoorZSKeep
import Derived.Test.YtgkfnmbjlfmcmaaGreatDoorZB2
import Derived.Test.YtgkfnmbjlfmcmaaGreatDoorZB1
import Derived.Deep.LoopGhost
import Derived.Deep.DeepCutAuto
import Derived.Deep.CutBlock
set_option linter.unusedSimpArgs false
set_option linter.unusedVariables false
namespace Go.Proofs.YtgkfnmbjlfmcmaaGreatDoor
open Go.RowKit

theorem own_front {w : World} {B g n cap k size : Nat} {e : TypeId} {xs : List Value} (h : w.ownsRow B e size (.slice (some ⟨g, 0, none⟩) n cap) n xs) (hk : k ≤ n) : w.ownsRow B e size (.slice (some ⟨g, 0, none⟩) k cap) k (xs.take (k * size)) := by
  have hl := h.1
  rcases h.2 with ⟨h1, _⟩ | ⟨g2, cap2, cur, h1, hb, hh, h2, h3, h4, h5⟩
  · cases h1
  · cases h1
    have hks : k * size ≤ n * size := Nat.mul_le_mul_right _ hk
    refine ⟨by rw [List.length_take, hl]; omega, .inr ⟨g, cap, cur, rfl, hb, hh, by omega, h3, h4, ?_⟩⟩
    rw [← h5, List.take_take, Nat.min_eq_left hks]

theorem srcNone {w : World} {a : Option Addr} {c n : Nat} {news : List Value} (hn : n = 0) (h : news = []) : SrcAt w (.slice a n c) n news := by
  subst hn; subst h
  cases a with
  | none => exact ⟨_, _, rfl, .inl ⟨rfl, rfl, rfl⟩⟩
  | some ad => exact ⟨_, _, rfl, .inr ⟨ad, rfl, fun j u hu => by cases hu⟩⟩

theorem mcells_take (l : List MsgM) (k : Nat) (hk : k ≤ l.length) : (mcells l).take (k * 4) = mcells (l.take k) := by
  have e3 : mcells l = mcells (l.take k) ++ mcells (l.drop k) := by rw [← mcells_app, List.take_append_drop]
  have e4 : (mcells (l.take k)).length = k * 4 := by rw [mcells_length, List.length_take]; omega
  rw [e3, List.take_append_of_le_length (by omega), List.take_of_length_le (by omega)]

theorem keep4 {wx wy : World} {B b o : Nat} {x : MsgM} (h : wx.cell? ⟨b, o, none⟩ = some (.int .i64 x.1) ∧ wx.cell? ⟨b, o + 1, none⟩ = some (.int .i64 x.2.1) ∧ wx.cell? ⟨b, o + 2, none⟩ = some (.string x.2.2.1) ∧ wx.cell? ⟨b, o + 3, none⟩ = some (.int .i64 x.2.2.2)) (hb : Below B wx wy) (hB : b < B) :
    wy.cell? ⟨b, o, none⟩ = some (.int .i64 x.1) ∧ wy.cell? ⟨b, o + 1, none⟩ = some (.int .i64 x.2.1) ∧ wy.cell? ⟨b, o + 2, none⟩ = some (.string x.2.2.1) ∧ wy.cell? ⟨b, o + 3, none⟩ = some (.int .i64 x.2.2.2) :=
  ⟨(below_cell hb hB).trans h.1, (below_cell hb hB).trans h.2.1, (below_cell hb hB).trans h.2.2.1, (below_cell hb hB).trans h.2.2.2⟩

theorem mcells_drop (l : List MsgM) (k : Nat) (hk : k ≤ l.length) : mcells (l.drop k) = (mcells l).drop (k * 4) := by
  have e3 : mcells l = mcells (l.take k) ++ mcells (l.drop k) := by rw [← mcells_app, List.take_append_drop]
  have e4 : (mcells (l.take k)).length = k * 4 := by rw [mcells_length, List.length_take]; omega
  rw [e3, List.drop_left' e4]

theorem own_back {w : World} {B g n cap k cc : Nat} {e : TypeId} {L : List MsgM} (h : w.ownsRow B e 4 (.slice (some ⟨g, 0, none⟩) n cap) n (mcells L)) (hn : L.length = n) (hk : k ≤ n) : SrcAt w (.slice (some ⟨g, k * 4, none⟩) (n - k) cc) (n - k) (mcells (L.drop k)) := by
  refine ⟨_, _, rfl, .inr ⟨_, rfl, fun j u hu => ?_⟩⟩
  rw [mcells_drop _ _ (by omega), List.getElem?_drop] at hu
  have hlt : k * 4 + j < n * 4 := by
    rcases Nat.lt_or_ge (k * 4 + j) (n * 4) with h2 | h2
    · exact h2
    · rw [List.getElem?_eq_none (by rw [mcells_length]; omega)] at hu; cases hu
  have := h.cellAt (k * 4 + j) hlt
  rw [hu] at this
  rw [show (⟨g, k * 4, none⟩ : Addr).add j = ⟨g, k * 4 + j, none⟩ by unfold Addr.add; split <;> simp_all]
  exact this

theorem putSeq_at {L : List MsgM} {x : MsgM} {n j : Nat} (hn : L.length = n) (hj : posM L x.1 n = j) (hjn : j ≤ n) : (putSeq L x).length = j + 1 + (n - j) ∧ mcells (putSeq L x) = mcells (L.take j) ++ mcells [x] ++ mcells (L.drop j) := by
  subst hn
  unfold putSeq
  rw [hj]
  refine ⟨by simp; omega, by rw [mcells_app, mcells_app]⟩

set_option maxRecDepth 100000 in
set_option maxHeartbeats 6400000 in
theorem specKeptFor_any (v : Value) (l : List MsgM) (fl : ByteArray) (w : World) (hl : l.length ≤ 1048576) (hs : ∀ x ∈ l, x.2.2.1.size ≤ 1048576) (hfs : fl.size ≤ 1048576) (hv : MsgsAt w v l) :
    Calls Tryz.prog 13 #[v, .string fl] w fun e w' => ∃ u, e = .returned u ∧ MOwn w' w.heap.size u (forM l fl) ∧ Below w.heap.size w w' := by
  have CK := Lib.hid (fun wx (h : MsgsAt wx v l) => specKeepOk_any v l wx hl hs h)
  have HS := Lib.hid hs
  have HR : Hid (forM l fl = if keepB l then forTo fl l l.length else []) := rfl
  have HV := Lib.hid hv
  obtain ⟨va, vc, rfl, hvc1, hvc2, hv3⟩ := hv
  have HC := Lib.hid hv3
  obtain ⟨b1, hb1⟩ : ∃ b, keepB l = b := ⟨_, rfl⟩
  rw [hb1] at CK HR
  clear hb1 hs hv3
  obtain ⟨ii, hii, hz0, hz1, hz2⟩ := msg_info
  have e0 := (Below.refl w.heap.size w).alloc (Nat.le_refl _) (.cells #[] 26)
  have O1 : Hid (MOwn (w.alloc (.cells #[] 26)) w.heap.size (.slice (some ⟨w.heap.size, 0, none⟩) 0 0) []) := Lib.hid (World.ownsRow_lit (base := w.heap.size) (e := 26) (size := 4) w #[] 0 (Nat.le_refl _) (by unfold maxLen; omega) rfl)
  have E1 := Lib.hid e0
  go_enter Tryz.func13, Tryz.ntmps13
  go_wp2_with fail
  clear e0
  generalize w.alloc (.cells #[] 26) = w1 at O1 E1 ⊢
  obtain ⟨G1, hG1⟩ : ∃ G, w.heap.size = G := ⟨_, rfl⟩
  have HG1 := Lib.hid hG1
  rw [hG1] at O1 ⊢
  clear hG1
  refine (CK.out _ (HV.out.below E1.out)).mono ?_
  rintro e w2 ⟨rfl, b2⟩
  have O2 := Lib.hid (row_below O1.out b2)
  have E2 := Lib.hid (below_end E1.out b2)
  clear b2 CK O1 E1
  cases b1
  · have HE : Hid (forM l fl = []) := Lib.hid (by rw [HR.out]; rfl)
    go_wp2
    go_ret
    exact ⟨_, rfl, by rw [HE.out, HG1.out]; exact O2.out, E2.out⟩
  have HE : Hid (forM l fl = forTo fl l l.length) := Lib.hid (by rw [HR.out]; rfl)
  clear HR
  go_wp2_with fail
  go_loopw [5, 6] (fun s5 s6 wr => ∃ (k : Nat) (L : List MsgM) (g n c : Nat), k ≤ l.length ∧ s6 = .int .i64 k ∧ s5 = .slice (some ⟨g, 0, none⟩) n c ∧ Hid (forTo fl l k = L) ∧ Hid (L.length = n) ∧ n ≤ k ∧ Hid (MOwn wr w.heap.size (.slice (some ⟨g, 0, none⟩) n c) L) ∧ Hid (Below w.heap.size w wr)) (fun _ i _ => l.length - (intOf i).toNat)
  case atStart => exact ⟨0, [], G1, 0, 0, Nat.zero_le _, rfl, rfl, rfl, rfl, Nat.le_refl _, Lib.hid (by rw [HG1.out]; exact O2.out), E2⟩
  case round =>
    obtain ⟨k, L, g, n, c, hk, rfl, rfl, HT, HLN, hnk, HO, HB⟩ := hrel
    clear O2 E2
    by_cases hlt : k < l.length
    · obtain ⟨b, o, rfl, hin⟩ : ∃ b o, va = some ⟨b, o, none⟩ ∧ MsgsIn w b o l := by
        rcases HC.out with h | h
        · subst h; simp at hlt
        · exact h
      have hbw : b < w.heap.size := World.block_lt_of_cell? _ _ (hin k hlt).1
      have CELLS := Lib.hid (fun wx (h : Below w.heap.size w wx) => (hin.below h) k hlt)
      have HNX : Hid (forTo fl l (k + 1) = if matchB fl l[k].2.2.1 then putSeq L l[k] else L) := Lib.hid (by rw [forTo_succ _ l k hlt, HT.out])
      have CM := Lib.hid (fun wx => specMatches_any fl l[k].2.2.1 wx hfs (HS.out _ (List.getElem_mem hlt)))
      unfold MsgIn at CELLS
      obtain ⟨x, hx⟩ : ∃ x, l[k] = x := ⟨_, rfl⟩
      rw [hx] at CELLS HNX CM
      clear hx hin HT
      obtain ⟨q, f, p, d⟩ := x
      dsimp only at CELLS HNX CM
      obtain ⟨mb, hmb⟩ : ∃ mb, matchB fl p = mb := ⟨_, rfl⟩
      rw [hmb] at HNX CM
      clear hmb
      have r2 := (CELLS.out _ HB.out).2.2.1
      cases mb
      · have HN : Hid (forTo fl l (k + 1) = L) := Lib.hid (by rw [HNX.out]; rfl)
        go_wp2_with fail
        refine (CM.out _).mono ?_
        rintro e w5 ⟨rfl, b5⟩
        have O5 := Lib.hid (row_below HO.out b5)
        have E5 := Lib.hid (below_end HB.out b5)
        clear b5 r2 HO HB
        go_wp2
        go_roundw
        case rel => exact ⟨k + 1, L, g, n, c, by omega, by go_num, rfl, HN, HLN, by omega, O5, E5⟩
        case measure => simp [intOf]; omega
      · have HN : Hid (forTo fl l (k + 1) = putSeq L (q, f, p, d)) := Lib.hid (by rw [HNX.out]; rfl)
        go_wp2_with fail
        refine (CM.out _).mono ?_
        rintro e w5 ⟨rfl, b5⟩
        have O5 : Hid (w5.ownsRow w.heap.size 26 4 (.slice (some ⟨g, 0, none⟩) n c) n (mcells L)) := Lib.hid (by have h := row_below HO.out b5; rw [HLN.out] at h; exact h)
        have E5 := Lib.hid (below_end HB.out b5)
        clear b5 r2 HO HB
        go_upto_block 2 with (fail)
        go_cut [7] (fun s7 wx => ∃ j : Nat, s7 = .int .i64 j ∧ j ≤ n ∧ Hid (posM L q n = j) ∧ Hid (wx.ownsRow w.heap.size 26 4 (.slice (some ⟨g, 0, none⟩) n c) n (mcells L)) ∧ Hid (Below w.heap.size w wx))
        case first =>
          go_wp2
          go_loopw [7] (fun i wr => ∃ j : Nat, j ≤ n ∧ i = .int .i64 j ∧ Hid (posM L q n = posM L q j) ∧ Hid (wr.ownsRow w.heap.size 26 4 (.slice (some ⟨g, 0, none⟩) n c) n (mcells L)) ∧ Hid (Below w.heap.size w wr)) (fun i _ => (intOf i).toNat)
          case atStart => exact ⟨n, Nat.le_refl _, rfl, rfl, O5, E5⟩
          case round =>
            obtain ⟨j, hj, rfl, HP, OR, ER⟩ := hrel
            clear O5 E5
            by_cases hpos : 0 < j
            · have hjl : j - 1 < L.length := by rw [HLN.out]; omega
              have hcell := OR.out.cellAt ((j - 1) * 4) (by omega)
              rw [(mcells_at L (j - 1) hjl).1] at hcell
              have r0 := (CELLS.out _ ER.out).1
              have hstep : posM L q j = if q < L[j - 1].1 then posM L q (j - 1) else j := by
                obtain ⟨i, rfl⟩ : ∃ i, j = i + 1 := ⟨j - 1, by omega⟩
                rw [posM, List.getD_eq_getElem?_getD, List.getElem?_eq_getElem (by omega)]; rfl
              obtain ⟨z, hz⟩ : ∃ z, L[j - 1].1 = z := ⟨_, rfl⟩
              rw [hz] at hcell hstep
              clear hz
              have g1 : decide (0 < j) = true := decide_eq_true hpos
              have g2 : decide ((0 : Int) < (j : Int)) = true := decide_eq_true (by omega)
              have g3 : IntKind.i64.wrap ((j : Int) - 1) = (j : Int) - 1 := by rw [IntKind.wrap_i64]; omega
              have g4 : (0 : Int) ≤ (j : Int) - 1 := by omega
              have g4b : (1 : Int) ≤ (j : Int) := by omega
              have g5 : (j : Int) - 1 < (n : Int) := by omega
              have g6 : ((j : Int) - 1).toNat = j - 1 := by omega
              have ED := Lib.hid ER.out.drew
              have OD := Lib.hid (row_below OR.out (Below.refl _ _).drew)
              by_cases hqz : q < z
              · have HN2 : Hid (posM L q n = posM L q (j - 1)) := Lib.hid (by rw [HP.out, hstep, if_pos hqz])
                have g7 : decide (q < z) = true := decide_eq_true hqz
                clear hstep HP
                go_wp2_with fail
                refine wp_region_held_drew (S := fun wx => wx.cell? ⟨b, o + k * 4, none⟩ = some (.int .i64 q) ∧ wx.cell? ⟨g, (j - 1) * 4, none⟩ = some (.int .i64 z)) (by kernel_rfl) ?_ (fun hHeld => ?_)
                · exact ⟨r0, hcell⟩
                change wpAnyH _ _ _ _ _ 16 #[false, false, false, false, false, false, false, false, false, false, false, false, false, false, false, false] _ _
                refine wpAnyH_take (i := 0) (v := ?_) rfl (by kernel_rfl) (by kernel_rfl) (by kernel_rfl) (fun _ _ _ h => h) (Or.inl ⟨by rfl, ?_⟩) (by assumption) ?_
                rotate_left
                · intro w hSw; (try dsimp only at hSw); go_simp; try with_reducible rfl
                try simp only [Act.put, List.getElem_toArray, List.getElem_cons_succ, List.getElem_cons_zero, List.setIfInBounds_toArray, List.set_cons_zero, List.set_cons_succ]
                refine wpAnyH_take (i := 1) (v := ?_) rfl (by kernel_rfl) (by kernel_rfl) (by kernel_rfl) (fun _ _ _ h => h) (Or.inl ⟨by rfl, ?_⟩) (by assumption) ?_
                rotate_left
                · intro w hSw; (try dsimp only at hSw); go_simp; try with_reducible rfl
                try simp only [Act.put, List.getElem_toArray, List.getElem_cons_succ, List.getElem_cons_zero, List.setIfInBounds_toArray, List.set_cons_zero, List.set_cons_succ]
                refine wpAnyH_take (i := 2) (v := ?_) rfl (by kernel_rfl) (by kernel_rfl) (by kernel_rfl) (fun _ _ _ h => h) (Or.inl ⟨by rfl, ?_⟩) (by assumption) ?_
                rotate_left
                · intro w hSw; (try dsimp only at hSw); go_simp; try with_reducible rfl
                try simp only [Act.put, List.getElem_toArray, List.getElem_cons_succ, List.getElem_cons_zero, List.setIfInBounds_toArray, List.set_cons_zero, List.set_cons_succ]
                refine wpAnyH_take (i := 3) (v := ?_) rfl (by kernel_rfl) (by kernel_rfl) (by kernel_rfl) (fun _ _ _ h => h) (Or.inl ⟨by rfl, ?_⟩) (by assumption) ?_
                rotate_left
                · intro w hSw; (try dsimp only at hSw); go_simp; try with_reducible rfl
                try simp only [Act.put, List.getElem_toArray, List.getElem_cons_succ, List.getElem_cons_zero, List.setIfInBounds_toArray, List.set_cons_zero, List.set_cons_succ]
                refine wpAnyH_take (i := 4) (v := ?_) rfl (by kernel_rfl) (by kernel_rfl) (by kernel_rfl) (fun _ _ _ h => h) (Or.inl ⟨by rfl, ?_⟩) (by assumption) ?_
                rotate_left
                · intro w hSw; (try dsimp only at hSw); go_simp; try with_reducible rfl
                try simp only [Act.put, List.getElem_toArray, List.getElem_cons_succ, List.getElem_cons_zero, List.setIfInBounds_toArray, List.set_cons_zero, List.set_cons_succ]
                refine wpAnyH_take (i := 5) (v := ?_) rfl (by kernel_rfl) (by kernel_rfl) (by kernel_rfl) (fun _ _ _ h => h) (Or.inl ⟨by rfl, ?_⟩) (by assumption) ?_
                rotate_left
                · intro w hSw; (try dsimp only at hSw); go_simp; try with_reducible rfl
                try simp only [Act.put, List.getElem_toArray, List.getElem_cons_succ, List.getElem_cons_zero, List.setIfInBounds_toArray, List.set_cons_zero, List.set_cons_succ]
                refine wpAnyH_take (i := 6) (v := ?_) rfl (by kernel_rfl) (by kernel_rfl) (by kernel_rfl) (fun _ _ _ h => h) (Or.inl ⟨by rfl, ?_⟩) (by assumption) ?_
                rotate_left
                · intro w hSw; (try dsimp only at hSw); go_simp; try with_reducible rfl
                try simp only [Act.put, List.getElem_toArray, List.getElem_cons_succ, List.getElem_cons_zero, List.setIfInBounds_toArray, List.set_cons_zero, List.set_cons_succ]
                refine wpAnyH_take (i := 7) (v := ?_) rfl (by kernel_rfl) (by kernel_rfl) (by kernel_rfl) (fun _ _ _ h => h) (Or.inl ⟨by rfl, ?_⟩) (by assumption) ?_
                rotate_left
                · intro w hSw; (try dsimp only at hSw); go_simp; try with_reducible rfl
                try simp only [Act.put, List.getElem_toArray, List.getElem_cons_succ, List.getElem_cons_zero, List.setIfInBounds_toArray, List.set_cons_zero, List.set_cons_succ]
                refine wpAnyH_take (i := 8) (v := ?_) rfl (by kernel_rfl) (by kernel_rfl) (by kernel_rfl) (fun _ _ _ h => h) (Or.inl ⟨by rfl, ?_⟩) (by assumption) ?_
                rotate_left
                · intro w hSw; (try dsimp only at hSw); go_simp; try with_reducible rfl
                try simp only [Act.put, List.getElem_toArray, List.getElem_cons_succ, List.getElem_cons_zero, List.setIfInBounds_toArray, List.set_cons_zero, List.set_cons_succ]
                refine wpAnyH_take (i := 9) (v := ?_) rfl (by kernel_rfl) (by kernel_rfl) (by kernel_rfl) (fun _ _ _ h => h) (Or.inl ⟨by rfl, ?_⟩) (by assumption) ?_
                rotate_left
                · intro w hSw; (try dsimp only at hSw); go_simp; try with_reducible rfl
                try simp only [Act.put, List.getElem_toArray, List.getElem_cons_succ, List.getElem_cons_zero, List.setIfInBounds_toArray, List.set_cons_zero, List.set_cons_succ]
                refine wpAnyH_take (i := 10) (v := ?_) rfl (by kernel_rfl) (by kernel_rfl) (by kernel_rfl) (fun _ _ _ h => h) (Or.inl ⟨by rfl, ?_⟩) (by assumption) ?_
                rotate_left
                · intro w hSw; (try dsimp only at hSw); go_simp; try with_reducible rfl
                try simp only [Act.put, List.getElem_toArray, List.getElem_cons_succ, List.getElem_cons_zero, List.setIfInBounds_toArray, List.set_cons_zero, List.set_cons_succ]
                refine wpAnyH_take (i := 11) (v := ?_) rfl (by kernel_rfl) (by kernel_rfl) (by kernel_rfl) (fun _ _ _ h => h) (Or.inl ⟨by rfl, ?_⟩) (by assumption) ?_
                rotate_left
                · intro w hSw; (try dsimp only at hSw); go_simp; try with_reducible rfl
                try simp only [Act.put, List.getElem_toArray, List.getElem_cons_succ, List.getElem_cons_zero, List.setIfInBounds_toArray, List.set_cons_zero, List.set_cons_succ]
                refine wpAnyH_take (i := 12) (v := ?_) rfl (by kernel_rfl) (by kernel_rfl) (by kernel_rfl) (fun _ _ _ h => h) (Or.inl ⟨by rfl, ?_⟩) (by assumption) ?_
                rotate_left
                · intro w hSw; (try dsimp only at hSw); go_simp; try with_reducible rfl
                try simp only [Act.put, List.getElem_toArray, List.getElem_cons_succ, List.getElem_cons_zero, List.setIfInBounds_toArray, List.set_cons_zero, List.set_cons_succ]
                refine wpAnyH_take (i := 13) (v := ?_) rfl (by kernel_rfl) (by kernel_rfl) (by kernel_rfl) (fun _ _ _ h => h) (Or.inl ⟨by rfl, ?_⟩) (by assumption) ?_
                rotate_left
                · intro w hSw; (try dsimp only at hSw); go_simp; try with_reducible rfl
                try simp only [Act.put, List.getElem_toArray, List.getElem_cons_succ, List.getElem_cons_zero, List.setIfInBounds_toArray, List.set_cons_zero, List.set_cons_succ]
                refine wpAnyH_take (i := 14) (v := ?_) rfl (by kernel_rfl) (by kernel_rfl) (by kernel_rfl) (fun _ _ _ h => h) (Or.inl ⟨by rfl, ?_⟩) (by assumption) ?_
                rotate_left
                · intro w hSw; (try dsimp only at hSw); go_simp; try with_reducible rfl
                try simp only [Act.put, List.getElem_toArray, List.getElem_cons_succ, List.getElem_cons_zero, List.setIfInBounds_toArray, List.set_cons_zero, List.set_cons_succ]
                refine wpAnyH_take (i := 15) (v := ?_) rfl (by kernel_rfl) (by kernel_rfl) (by kernel_rfl) (fun _ _ _ h => h) (Or.inl ⟨by rfl, ?_⟩) (by assumption) ?_
                rotate_left
                · intro w hSw; (try dsimp only at hSw); go_simp; try with_reducible rfl
                try simp only [Act.put, List.getElem_toArray, List.getElem_cons_succ, List.getElem_cons_zero, List.setIfInBounds_toArray, List.set_cons_zero, List.set_cons_succ]
                refine wpAnyH_done (by kernel_rfl) ?_ _
                clear hHeld r0 hcell OR ER
                generalize wr.drew = w7 at ED OD ⊢
                go_wp2
                go_roundw
                case rel => exact ⟨j - 1, by omega, by go_num, HN2, OD, ED⟩
                case measure => simp [intOf]; omega
              · have HN2 : Hid (posM L q n = j) := Lib.hid (by rw [HP.out, hstep, if_neg hqz])
                have g7 : decide (q < z) = false := decide_eq_false hqz
                clear hstep HP
                go_wp2_with fail
                refine wp_region_held_drew (S := fun wx => wx.cell? ⟨b, o + k * 4, none⟩ = some (.int .i64 q) ∧ wx.cell? ⟨g, (j - 1) * 4, none⟩ = some (.int .i64 z)) (by kernel_rfl) ?_ (fun hHeld => ?_)
                · exact ⟨r0, hcell⟩
                change wpAnyH _ _ _ _ _ 16 #[false, false, false, false, false, false, false, false, false, false, false, false, false, false, false, false] _ _
                refine wpAnyH_take (i := 0) (v := ?_) rfl (by kernel_rfl) (by kernel_rfl) (by kernel_rfl) (fun _ _ _ h => h) (Or.inl ⟨by rfl, ?_⟩) (by assumption) ?_
                rotate_left
                · intro w hSw; (try dsimp only at hSw); go_simp; try with_reducible rfl
                try simp only [Act.put, List.getElem_toArray, List.getElem_cons_succ, List.getElem_cons_zero, List.setIfInBounds_toArray, List.set_cons_zero, List.set_cons_succ]
                refine wpAnyH_take (i := 1) (v := ?_) rfl (by kernel_rfl) (by kernel_rfl) (by kernel_rfl) (fun _ _ _ h => h) (Or.inl ⟨by rfl, ?_⟩) (by assumption) ?_
                rotate_left
                · intro w hSw; (try dsimp only at hSw); go_simp; try with_reducible rfl
                try simp only [Act.put, List.getElem_toArray, List.getElem_cons_succ, List.getElem_cons_zero, List.setIfInBounds_toArray, List.set_cons_zero, List.set_cons_succ]
                refine wpAnyH_take (i := 2) (v := ?_) rfl (by kernel_rfl) (by kernel_rfl) (by kernel_rfl) (fun _ _ _ h => h) (Or.inl ⟨by rfl, ?_⟩) (by assumption) ?_
                rotate_left
                · intro w hSw; (try dsimp only at hSw); go_simp; try with_reducible rfl
                try simp only [Act.put, List.getElem_toArray, List.getElem_cons_succ, List.getElem_cons_zero, List.setIfInBounds_toArray, List.set_cons_zero, List.set_cons_succ]
                refine wpAnyH_take (i := 3) (v := ?_) rfl (by kernel_rfl) (by kernel_rfl) (by kernel_rfl) (fun _ _ _ h => h) (Or.inl ⟨by rfl, ?_⟩) (by assumption) ?_
                rotate_left
                · intro w hSw; (try dsimp only at hSw); go_simp; try with_reducible rfl
                try simp only [Act.put, List.getElem_toArray, List.getElem_cons_succ, List.getElem_cons_zero, List.setIfInBounds_toArray, List.set_cons_zero, List.set_cons_succ]
                refine wpAnyH_take (i := 4) (v := ?_) rfl (by kernel_rfl) (by kernel_rfl) (by kernel_rfl) (fun _ _ _ h => h) (Or.inl ⟨by rfl, ?_⟩) (by assumption) ?_
                rotate_left
                · intro w hSw; (try dsimp only at hSw); go_simp; try with_reducible rfl
                try simp only [Act.put, List.getElem_toArray, List.getElem_cons_succ, List.getElem_cons_zero, List.setIfInBounds_toArray, List.set_cons_zero, List.set_cons_succ]
                refine wpAnyH_take (i := 5) (v := ?_) rfl (by kernel_rfl) (by kernel_rfl) (by kernel_rfl) (fun _ _ _ h => h) (Or.inl ⟨by rfl, ?_⟩) (by assumption) ?_
                rotate_left
                · intro w hSw; (try dsimp only at hSw); go_simp; try with_reducible rfl
                try simp only [Act.put, List.getElem_toArray, List.getElem_cons_succ, List.getElem_cons_zero, List.setIfInBounds_toArray, List.set_cons_zero, List.set_cons_succ]
                refine wpAnyH_take (i := 6) (v := ?_) rfl (by kernel_rfl) (by kernel_rfl) (by kernel_rfl) (fun _ _ _ h => h) (Or.inl ⟨by rfl, ?_⟩) (by assumption) ?_
                rotate_left
                · intro w hSw; (try dsimp only at hSw); go_simp; try with_reducible rfl
                try simp only [Act.put, List.getElem_toArray, List.getElem_cons_succ, List.getElem_cons_zero, List.setIfInBounds_toArray, List.set_cons_zero, List.set_cons_succ]
                refine wpAnyH_take (i := 7) (v := ?_) rfl (by kernel_rfl) (by kernel_rfl) (by kernel_rfl) (fun _ _ _ h => h) (Or.inl ⟨by rfl, ?_⟩) (by assumption) ?_
                rotate_left
                · intro w hSw; (try dsimp only at hSw); go_simp; try with_reducible rfl
                try simp only [Act.put, List.getElem_toArray, List.getElem_cons_succ, List.getElem_cons_zero, List.setIfInBounds_toArray, List.set_cons_zero, List.set_cons_succ]
                refine wpAnyH_take (i := 8) (v := ?_) rfl (by kernel_rfl) (by kernel_rfl) (by kernel_rfl) (fun _ _ _ h => h) (Or.inl ⟨by rfl, ?_⟩) (by assumption) ?_
                rotate_left
                · intro w hSw; (try dsimp only at hSw); go_simp; try with_reducible rfl
                try simp only [Act.put, List.getElem_toArray, List.getElem_cons_succ, List.getElem_cons_zero, List.setIfInBounds_toArray, List.set_cons_zero, List.set_cons_succ]
                refine wpAnyH_take (i := 9) (v := ?_) rfl (by kernel_rfl) (by kernel_rfl) (by kernel_rfl) (fun _ _ _ h => h) (Or.inl ⟨by rfl, ?_⟩) (by assumption) ?_
                rotate_left
                · intro w hSw; (try dsimp only at hSw); go_simp; try with_reducible rfl
                try simp only [Act.put, List.getElem_toArray, List.getElem_cons_succ, List.getElem_cons_zero, List.setIfInBounds_toArray, List.set_cons_zero, List.set_cons_succ]
                refine wpAnyH_take (i := 10) (v := ?_) rfl (by kernel_rfl) (by kernel_rfl) (by kernel_rfl) (fun _ _ _ h => h) (Or.inl ⟨by rfl, ?_⟩) (by assumption) ?_
                rotate_left
                · intro w hSw; (try dsimp only at hSw); go_simp; try with_reducible rfl
                try simp only [Act.put, List.getElem_toArray, List.getElem_cons_succ, List.getElem_cons_zero, List.setIfInBounds_toArray, List.set_cons_zero, List.set_cons_succ]
                refine wpAnyH_take (i := 11) (v := ?_) rfl (by kernel_rfl) (by kernel_rfl) (by kernel_rfl) (fun _ _ _ h => h) (Or.inl ⟨by rfl, ?_⟩) (by assumption) ?_
                rotate_left
                · intro w hSw; (try dsimp only at hSw); go_simp; try with_reducible rfl
                try simp only [Act.put, List.getElem_toArray, List.getElem_cons_succ, List.getElem_cons_zero, List.setIfInBounds_toArray, List.set_cons_zero, List.set_cons_succ]
                refine wpAnyH_take (i := 12) (v := ?_) rfl (by kernel_rfl) (by kernel_rfl) (by kernel_rfl) (fun _ _ _ h => h) (Or.inl ⟨by rfl, ?_⟩) (by assumption) ?_
                rotate_left
                · intro w hSw; (try dsimp only at hSw); go_simp; try with_reducible rfl
                try simp only [Act.put, List.getElem_toArray, List.getElem_cons_succ, List.getElem_cons_zero, List.setIfInBounds_toArray, List.set_cons_zero, List.set_cons_succ]
                refine wpAnyH_take (i := 13) (v := ?_) rfl (by kernel_rfl) (by kernel_rfl) (by kernel_rfl) (fun _ _ _ h => h) (Or.inl ⟨by rfl, ?_⟩) (by assumption) ?_
                rotate_left
                · intro w hSw; (try dsimp only at hSw); go_simp; try with_reducible rfl
                try simp only [Act.put, List.getElem_toArray, List.getElem_cons_succ, List.getElem_cons_zero, List.setIfInBounds_toArray, List.set_cons_zero, List.set_cons_succ]
                refine wpAnyH_take (i := 14) (v := ?_) rfl (by kernel_rfl) (by kernel_rfl) (by kernel_rfl) (fun _ _ _ h => h) (Or.inl ⟨by rfl, ?_⟩) (by assumption) ?_
                rotate_left
                · intro w hSw; (try dsimp only at hSw); go_simp; try with_reducible rfl
                try simp only [Act.put, List.getElem_toArray, List.getElem_cons_succ, List.getElem_cons_zero, List.setIfInBounds_toArray, List.set_cons_zero, List.set_cons_succ]
                refine wpAnyH_take (i := 15) (v := ?_) rfl (by kernel_rfl) (by kernel_rfl) (by kernel_rfl) (fun _ _ _ h => h) (Or.inl ⟨by rfl, ?_⟩) (by assumption) ?_
                rotate_left
                · intro w hSw; (try dsimp only at hSw); go_simp; try with_reducible rfl
                try simp only [Act.put, List.getElem_toArray, List.getElem_cons_succ, List.getElem_cons_zero, List.setIfInBounds_toArray, List.set_cons_zero, List.set_cons_succ]
                refine wpAnyH_done (by kernel_rfl) ?_ _
                clear hHeld r0 hcell OR ER
                generalize wr.drew = w7 at ED OD ⊢
                go_wp2
                go_meet
                exact ⟨j, rfl, hj, HN2, OD, ED⟩
            · obtain rfl : j = 0 := by omega
              have HN2 : Hid (posM L q n = 0) := Lib.hid (by rw [HP.out]; rfl)
              have ED := Lib.hid ER.out.drew
              have OD := Lib.hid (row_below OR.out (Below.refl _ _).drew)
              clear HP
              go_wp2_with fail
              refine wp_region_held_drew (S := fun _ => True) (by kernel_rfl) ?_ (fun hHeld => ?_)
              · trivial
              change wpAnyH _ _ _ _ _ 16 #[false, false, false, false, false, false, false, false, false, false, false, false, false, false, false, false] _ _
              refine wpAnyH_take (i := 0) (v := ?_) rfl (by kernel_rfl) (by kernel_rfl) (by kernel_rfl) (fun _ _ _ h => h) (Or.inl ⟨by rfl, ?_⟩) (by assumption) ?_
              rotate_left
              · intro w hSw; (try dsimp only at hSw); go_simp; try with_reducible rfl
              try simp only [Act.put, List.getElem_toArray, List.getElem_cons_succ, List.getElem_cons_zero, List.setIfInBounds_toArray, List.set_cons_zero, List.set_cons_succ]
              refine wpAnyH_take (i := 1) (v := ?_) rfl (by kernel_rfl) (by kernel_rfl) (by kernel_rfl) (fun _ _ _ h => h) (Or.inl ⟨by rfl, ?_⟩) (by assumption) ?_
              rotate_left
              · intro w hSw; (try dsimp only at hSw); go_simp; try with_reducible rfl
              try simp only [Act.put, List.getElem_toArray, List.getElem_cons_succ, List.getElem_cons_zero, List.setIfInBounds_toArray, List.set_cons_zero, List.set_cons_succ]
              refine wpAnyH_take (i := 2) (v := ?_) rfl (by kernel_rfl) (by kernel_rfl) (by kernel_rfl) (fun _ _ _ h => h) (Or.inl ⟨by rfl, ?_⟩) (by assumption) ?_
              rotate_left
              · intro w hSw; (try dsimp only at hSw); go_simp; try with_reducible rfl
              try simp only [Act.put, List.getElem_toArray, List.getElem_cons_succ, List.getElem_cons_zero, List.setIfInBounds_toArray, List.set_cons_zero, List.set_cons_succ]
              refine wpAnyH_take (i := 3) (v := undef) rfl (by kernel_rfl) (by kernel_rfl) (by kernel_rfl) (fun _ _ _ h => h) (Or.inr ⟨by rfl, rfl⟩) (by assumption) ?_
              try simp only [Act.put, List.getElem_toArray, List.getElem_cons_succ, List.getElem_cons_zero, List.setIfInBounds_toArray, List.set_cons_zero, List.set_cons_succ]
              refine wpAnyH_take (i := 4) (v := undef) rfl (by kernel_rfl) (by kernel_rfl) (by kernel_rfl) (fun _ _ _ h => h) (Or.inr ⟨by rfl, rfl⟩) (by assumption) ?_
              try simp only [Act.put, List.getElem_toArray, List.getElem_cons_succ, List.getElem_cons_zero, List.setIfInBounds_toArray, List.set_cons_zero, List.set_cons_succ]
              refine wpAnyH_take (i := 5) (v := undef) rfl (by kernel_rfl) (by kernel_rfl) (by kernel_rfl) (fun _ _ _ h => h) (Or.inr ⟨by rfl, rfl⟩) (by assumption) ?_
              try simp only [Act.put, List.getElem_toArray, List.getElem_cons_succ, List.getElem_cons_zero, List.setIfInBounds_toArray, List.set_cons_zero, List.set_cons_succ]
              refine wpAnyH_take (i := 6) (v := undef) rfl (by kernel_rfl) (by kernel_rfl) (by kernel_rfl) (fun _ _ _ h => h) (Or.inr ⟨by rfl, rfl⟩) (by assumption) ?_
              try simp only [Act.put, List.getElem_toArray, List.getElem_cons_succ, List.getElem_cons_zero, List.setIfInBounds_toArray, List.set_cons_zero, List.set_cons_succ]
              refine wpAnyH_take (i := 7) (v := undef) rfl (by kernel_rfl) (by kernel_rfl) (by kernel_rfl) (fun _ _ _ h => h) (Or.inr ⟨by rfl, rfl⟩) (by assumption) ?_
              try simp only [Act.put, List.getElem_toArray, List.getElem_cons_succ, List.getElem_cons_zero, List.setIfInBounds_toArray, List.set_cons_zero, List.set_cons_succ]
              refine wpAnyH_take (i := 8) (v := undef) rfl (by kernel_rfl) (by kernel_rfl) (by kernel_rfl) (fun _ _ _ h => h) (Or.inr ⟨by rfl, rfl⟩) (by assumption) ?_
              try simp only [Act.put, List.getElem_toArray, List.getElem_cons_succ, List.getElem_cons_zero, List.setIfInBounds_toArray, List.set_cons_zero, List.set_cons_succ]
              refine wpAnyH_take (i := 9) (v := undef) rfl (by kernel_rfl) (by kernel_rfl) (by kernel_rfl) (fun _ _ _ h => h) (Or.inr ⟨by rfl, rfl⟩) (by assumption) ?_
              try simp only [Act.put, List.getElem_toArray, List.getElem_cons_succ, List.getElem_cons_zero, List.setIfInBounds_toArray, List.set_cons_zero, List.set_cons_succ]
              refine wpAnyH_take (i := 10) (v := undef) rfl (by kernel_rfl) (by kernel_rfl) (by kernel_rfl) (fun _ _ _ h => h) (Or.inr ⟨by rfl, rfl⟩) (by assumption) ?_
              try simp only [Act.put, List.getElem_toArray, List.getElem_cons_succ, List.getElem_cons_zero, List.setIfInBounds_toArray, List.set_cons_zero, List.set_cons_succ]
              refine wpAnyH_take (i := 11) (v := undef) rfl (by kernel_rfl) (by kernel_rfl) (by kernel_rfl) (fun _ _ _ h => h) (Or.inr ⟨by rfl, rfl⟩) (by assumption) ?_
              try simp only [Act.put, List.getElem_toArray, List.getElem_cons_succ, List.getElem_cons_zero, List.setIfInBounds_toArray, List.set_cons_zero, List.set_cons_succ]
              refine wpAnyH_take (i := 12) (v := undef) rfl (by kernel_rfl) (by kernel_rfl) (by kernel_rfl) (fun _ _ _ h => h) (Or.inr ⟨by rfl, rfl⟩) (by assumption) ?_
              try simp only [Act.put, List.getElem_toArray, List.getElem_cons_succ, List.getElem_cons_zero, List.setIfInBounds_toArray, List.set_cons_zero, List.set_cons_succ]
              refine wpAnyH_take (i := 13) (v := undef) rfl (by kernel_rfl) (by kernel_rfl) (by kernel_rfl) (fun _ _ _ h => h) (Or.inr ⟨by rfl, rfl⟩) (by assumption) ?_
              try simp only [Act.put, List.getElem_toArray, List.getElem_cons_succ, List.getElem_cons_zero, List.setIfInBounds_toArray, List.set_cons_zero, List.set_cons_succ]
              refine wpAnyH_take (i := 14) (v := undef) rfl (by kernel_rfl) (by kernel_rfl) (by kernel_rfl) (fun _ _ _ h => h) (Or.inr ⟨by rfl, rfl⟩) (by assumption) ?_
              try simp only [Act.put, List.getElem_toArray, List.getElem_cons_succ, List.getElem_cons_zero, List.setIfInBounds_toArray, List.set_cons_zero, List.set_cons_succ]
              refine wpAnyH_take (i := 15) (v := ?_) rfl (by kernel_rfl) (by kernel_rfl) (by kernel_rfl) (fun _ _ _ h => h) (Or.inl ⟨by rfl, ?_⟩) (by assumption) ?_
              rotate_left
              · intro w hSw; (try dsimp only at hSw); go_simp; try with_reducible rfl
              try simp only [Act.put, List.getElem_toArray, List.getElem_cons_succ, List.getElem_cons_zero, List.setIfInBounds_toArray, List.set_cons_zero, List.set_cons_succ]
              refine wpAnyH_done (by kernel_rfl) ?_ _
              generalize wr.drew = w7 at ED OD ⊢
              go_wp2
              go_meet
              exact ⟨0, rfl, hj, HN2, OD, ED⟩
        case rest =>
          obtain ⟨j, rfl, hj, HPJ, O6, E6⟩ := hcut
          clear O5 E5
          have hnc : n ≤ c := own_cap2 O6.out
          have hjc : j ≤ c := Nat.le_trans hj hnc
          by_cases hkc : j = c
          · subst hkc
            have HSD : Hid (SrcAt wc (.slice (some ⟨g, 0, none⟩) (n - j) 0) (n - j) (mcells (L.drop j))) := Lib.hid (srcNone (by omega) (by rw [List.drop_of_length_le (by rw [HLN.out]; omega)]; rfl))
            clear hnc
            have e0 := (Below.refl wc.heap.size wc).alloc (Nat.le_refl _) (.cells #[] 26)
            have OX : Hid ((wc.alloc (.cells #[] 26)).ownsRow wc.heap.size 26 4 (.slice (some ⟨wc.heap.size, 0, none⟩) 0 0) 0 []) := Lib.hid (World.ownsRow_lit (base := wc.heap.size) (e := 26) (size := 4) wc #[] 0 (Nat.le_refl _) (by unfold maxLen; omega) rfl)
            have HSX := Lib.hid (HSD.out.below e0)
            have O6X := Lib.hid (row_below O6.out e0)
            have EX := Lib.hid (below_end E6.out e0)
            have HBX : Hid (wc.heap.size ≤ (wc.alloc (.cells #[] 26)).heap.size) := Lib.hid e0.size
            have HGW : Hid (g < wc.heap.size ∧ w.heap.size ≤ g) := Lib.hid ⟨(O6.out.lt g rfl).2, (O6.out.lt g rfl).1⟩
            have HSZ : Hid (w.heap.size ≤ wc.heap.size) := Lib.hid E6.out.size
            have HLD : Hid ((mcells (L.drop j)).length = (n - j) * 4) := Lib.hid (by rw [mcells_length, List.length_drop, HLN.out])
            have HPM := Lib.hid (putSeq_at (x := (q, f, p, d)) HLN.out HPJ.out hj)
            clear e0 HSD O6 E6
            go_wp2_with (at_builtin; go_must (refine wpList_append_src rfl _ _ 24 rfl wc.heap.size 26 ii (.agg #[.int .i64 0, .int .i64 0, .string ⟨#[]⟩, .int .i64 0]) 4 40 Tryz.underlying24 hii hz0 hz1 hz2 rfl (by decide) (.slice (some ⟨wc.heap.size, 0, none⟩) 0 0) _ 0 (n - j) [] (mcells (L.drop j)) rfl OX.out rfl HSX.out HLD.out (mcells_one _) (by unfold maxLen; omega) (by omega) HBX.out ?_); intro v2 w2 hr2 hg2 _)
            obtain ⟨rx, rc, hrv⟩ := own_slice hr2
            subst hrv
            rw [Nat.zero_add, List.nil_append] at hr2
            rw [Nat.zero_add]
            have E2 := Lib.hid (EX.out.grown hg2 EX.out.size (fun i e => Nat.le_trans HSZ.out (OX.out.lt i e).1))
            have O2 := Lib.hid (O6X.out.kept hg2 (.inr (fun e => by have h1 := HGW.out.1; have e3 : g = wc.heap.size := Option.some.inj e; omega)))
            have R2 := Lib.hid hr2
            have E3 := Lib.hid E2.out.drew
            have O3 := Lib.hid (row_below O2.out (Below.refl _ _).drew)
            have R3 := Lib.hid (row_below R2.out (Below.refl _ _).drew)
            have C3 := CELLS.out _ E3.out
            have Z3 : Hid (wc.heap.size ≤ w2.drew.heap.size) := Lib.hid (Nat.le_trans HBX.out hg2.size)
            clear hr2 hg2 OX HSX O6X EX HBX E2 O2 R2
            go_wp2_with fail
            refine wp_region_held_drew (S := fun wx => wx.cell? ⟨b, o + k * 4, none⟩ = some (.int .i64 q) ∧ wx.cell? ⟨b, o + k * 4 + 1, none⟩ = some (.int .i64 f) ∧ wx.cell? ⟨b, o + k * 4 + 2, none⟩ = some (.string p) ∧ wx.cell? ⟨b, o + k * 4 + 3, none⟩ = some (.int .i64 d)) (by kernel_rfl) ?_ (fun hHeld => ?_)
            · exact C3
            change wpAnyH _ _ _ _ _ 12 #[false, false, false, false, false, false, false, false, false, false, false, false] _ _
            clear C3
            generalize w2.drew = wd at E3 O3 R3 Z3 hHeld ⊢
            have e0 := (Below.refl wd.heap.size wd).alloc (Nat.le_refl _) (.cells #[.int .i64 q, .int .i64 f, .string p, .int .i64 d] 26)
            have OA := Lib.hid (row_below O3.out e0)
            have RA := Lib.hid (row_below R3.out e0)
            have HSR : Hid (SrcAt (wd.alloc (.cells #[.int .i64 q, .int .i64 f, .string p, .int .i64 d] 26)) (.slice (some ⟨wd.heap.size, 0, none⟩) 1 1) 1 (mcells [(q, f, p, d)])) := Lib.hid ⟨_, _, rfl, .inr ⟨_, rfl, msg_new wd (q, f, p, d) 26⟩⟩
            have EA := Lib.hid (below_end E3.out e0)
            have HBA : Hid (w.heap.size ≤ (wd.alloc (.cells #[.int .i64 q, .int .i64 f, .string p, .int .i64 d] 26)).heap.size) := Lib.hid EA.out.size
            have h9 := own_front OA.out hj
            rw [mcells_take _ _ (by rw [HLN.out]; exact hj)] at h9
            have OF := Lib.hid h9
            clear e0 E3 O3 R3 OA h9
            refine wpAnyH_take (i := 0) (v := ?_) rfl (by kernel_rfl) (by kernel_rfl) (by kernel_rfl) (fun _ _ _ h => h) (Or.inl ⟨by rfl, ?_⟩) (by assumption) ?_
            rotate_left
            · intro w hSw; (try dsimp only at hSw); go_simp; try with_reducible rfl
            try simp only [Act.put, List.getElem_toArray, List.getElem_cons_succ, List.getElem_cons_zero, List.setIfInBounds_toArray, List.set_cons_zero, List.set_cons_succ]
            refine wpAnyH_take (i := 1) (v := ?_) rfl (by kernel_rfl) (by kernel_rfl) (by kernel_rfl) (fun _ _ _ h => h) (Or.inl ⟨by rfl, ?_⟩) (by assumption) ?_
            rotate_left
            · intro w hSw; (try dsimp only at hSw); go_simp; try with_reducible rfl
            try simp only [Act.put, List.getElem_toArray, List.getElem_cons_succ, List.getElem_cons_zero, List.setIfInBounds_toArray, List.set_cons_zero, List.set_cons_succ]
            refine wpAnyH_take (i := 2) (v := ?_) rfl (by kernel_rfl) (by kernel_rfl) (by kernel_rfl) (fun _ _ _ h => h) (Or.inl ⟨by rfl, ?_⟩) (by assumption) ?_
            rotate_left
            · intro w hSw; (try dsimp only at hSw); go_simp; try with_reducible rfl
            try simp only [Act.put, List.getElem_toArray, List.getElem_cons_succ, List.getElem_cons_zero, List.setIfInBounds_toArray, List.set_cons_zero, List.set_cons_succ]
            refine wpAnyH_take (i := 3) (v := ?_) rfl (by kernel_rfl) (by kernel_rfl) (by kernel_rfl) (fun _ _ _ h => h) (Or.inl ⟨by rfl, ?_⟩) (by assumption) ?_
            rotate_left
            · intro w hSw; (try dsimp only at hSw); go_simp; try with_reducible rfl
            try simp only [Act.put, List.getElem_toArray, List.getElem_cons_succ, List.getElem_cons_zero, List.setIfInBounds_toArray, List.set_cons_zero, List.set_cons_succ]
            refine wpAnyH_take (i := 4) (v := ?_) rfl (by kernel_rfl) (by kernel_rfl) (by kernel_rfl) (fun _ _ _ h => h) (Or.inl ⟨by rfl, ?_⟩) (by assumption) ?_
            rotate_left
            · intro w hSw; (try dsimp only at hSw); go_simp; try with_reducible rfl
            try simp only [Act.put, List.getElem_toArray, List.getElem_cons_succ, List.getElem_cons_zero, List.setIfInBounds_toArray, List.set_cons_zero, List.set_cons_succ]
            refine wpAnyH_take (i := 5) (v := ?_) rfl (by kernel_rfl) (by kernel_rfl) (by kernel_rfl) (fun _ _ _ h => h) (Or.inl ⟨by rfl, ?_⟩) (by assumption) ?_
            rotate_left
            · intro w hSw; (try dsimp only at hSw); go_simp; try with_reducible rfl
            try simp only [Act.put, List.getElem_toArray, List.getElem_cons_succ, List.getElem_cons_zero, List.setIfInBounds_toArray, List.set_cons_zero, List.set_cons_succ]
            refine wpAnyH_take (i := 6) (v := ?_) rfl (by kernel_rfl) (by kernel_rfl) (by kernel_rfl) (fun _ _ _ h => h) (Or.inl ⟨by rfl, ?_⟩) (by assumption) ?_
            rotate_left
            · intro w hSw; (try dsimp only at hSw); go_simp; try with_reducible rfl
            try simp only [Act.put, List.getElem_toArray, List.getElem_cons_succ, List.getElem_cons_zero, List.setIfInBounds_toArray, List.set_cons_zero, List.set_cons_succ]
            refine wpAnyH_take (i := 9) (v := ?_) rfl (by kernel_rfl) (by kernel_rfl) (by kernel_rfl) (fun _ _ _ h => h) (Or.inl ⟨by rfl, ?_⟩) (by assumption) ?_
            rotate_left
            · intro w hSw; (try dsimp only at hSw); go_simp; try with_reducible rfl
            try simp only [Act.put, List.getElem_toArray, List.getElem_cons_succ, List.getElem_cons_zero, List.setIfInBounds_toArray, List.set_cons_zero, List.set_cons_succ]
            refine wpAnyH_ready (rs := [7]) (by kernel_rfl) (by simp) (AllReadyH.cons rfl (fun K hK => ?_) AllReadyH.nil)
            rw [if_pos (by rfl)]
            go_simp
            refine hK.out _ _ ?_ (fun hHeld => ?_)
            · exact CELLS.out _ EA.out
            clear hK K
            try simp only [Act.put, List.getElem_toArray, List.getElem_cons_succ, List.getElem_cons_zero, List.setIfInBounds_toArray, List.set_cons_zero, List.set_cons_succ]
            refine wpAnyH_ready (rs := [8]) (by kernel_rfl) (by simp) (AllReadyH.cons rfl (fun K hK => ?_) AllReadyH.nil)
            rw [if_pos (by rfl)]
            refine wp_append_src (.tmp 55) (.tmp 60) 24 rfl w.heap.size 26 ii (.agg #[.int .i64 0, .int .i64 0, .string ⟨#[]⟩, .int .i64 0]) 4 40 Tryz.underlying24 hii hz0 hz1 hz2 rfl (by decide) _ (.slice (some ⟨wd.heap.size, 0, none⟩) 1 1) j 1 (mcells (L.take j)) (mcells [(q, f, p, d)]) (by simp [Act.eval]) OF.out (by simp [Act.eval]) HSR.out rfl (mcells_one _) (by unfold maxLen; omega) (by omega) HBA.out ?_; intro v4 w4 hr4 hg4 _; have E4 := Lib.hid (EA.out.grown hg4 EA.out.size (fun i e => (OF.out.lt i e).1)); have R4 := Lib.hid (RA.out.kept hg4 (by cases e : (Value.slice rx (n - j) rc).ownBlock with | none => exact .inl rfl | some bb => exact .inr (fun e2 => by have h1 := (RA.out.lt bb e).1; have h2 := HGW.out.1; have e3 : bb = g := Option.some.inj e2; omega))); have O4 := Lib.hid hr4; clear hr4 hg4 OF RA HSR EA HBA
            refine hK.out _ _ ?_ (fun hHeld => ?_)
            · exact CELLS.out _ E4.out
            clear hK K
            try simp only [Act.put, List.getElem_toArray, List.getElem_cons_succ, List.getElem_cons_zero, List.setIfInBounds_toArray, List.set_cons_zero, List.set_cons_succ]
            refine wpAnyH_ready (rs := [10]) (by kernel_rfl) (by simp) (AllReadyH.cons rfl (fun K hK => ?_) AllReadyH.nil)
            rw [if_pos (by rfl)]
            refine wp_append_src (.tmp 61) (.tmp 62) 24 rfl w.heap.size 26 ii (.agg #[.int .i64 0, .int .i64 0, .string ⟨#[]⟩, .int .i64 0]) 4 40 Tryz.underlying24 hii hz0 hz1 hz2 rfl (by decide) v4 (.slice rx (n - j) rc) (j + 1) (n - j) (mcells (L.take j) ++ mcells [(q, f, p, d)]) (mcells (L.drop j)) (by simp [Act.eval]) O4.out (by simp [Act.eval]) (SrcAt.own R4.out) HLD.out (mcells_one _) (by unfold maxLen; omega) (by omega) E4.out.size ?_; intro v5 w5 hr5 hg5 _; obtain ⟨gy, yc, hyv⟩ := Joins.ownsRow_form hr5 (by omega); subst hyv; have E5 := Lib.hid (E4.out.grown hg5 E4.out.size (fun i e => (O4.out.lt i e).1)); have O5 := Lib.hid hr5; clear hr5 hg5 O4 R4 E4
            refine hK.out _ _ ?_ (fun hHeld => ?_)
            · exact CELLS.out _ E5.out
            clear hK K
            try simp only [Act.put, List.getElem_toArray, List.getElem_cons_succ, List.getElem_cons_zero, List.setIfInBounds_toArray, List.set_cons_zero, List.set_cons_succ]
            refine wpAnyH_take (i := 11) (v := ?_) rfl (by kernel_rfl) (by kernel_rfl) (by kernel_rfl) (fun _ _ _ h => h) (Or.inl ⟨by rfl, ?_⟩) (by assumption) ?_
            rotate_left
            · intro w hSw; (try dsimp only at hSw); go_simp; try with_reducible rfl
            try simp only [Act.put, List.getElem_toArray, List.getElem_cons_succ, List.getElem_cons_zero, List.setIfInBounds_toArray, List.set_cons_zero, List.set_cons_succ]
            refine wpAnyH_done (by kernel_rfl) ?_ _
            clear hHeld
            have ON : Hid (MOwn w5 w.heap.size (.slice (some ⟨gy, 0, none⟩) (j + 1 + (n - j)) yc) (putSeq L (q, f, p, d))) := Lib.hid (by unfold MOwn; rw [HPM.out.1, HPM.out.2]; exact O5.out)
            clear O5
            go_wp2
            go_roundw
            case rel => exact ⟨k + 1, putSeq L (q, f, p, d), gy, j + 1 + (n - j), yc, by omega, by go_num, rfl, HN, Lib.hid HPM.out.1, by omega, ON, E5⟩
            case measure => simp [intOf]; omega
          · have HSD : Hid (SrcAt wc (.slice (some ⟨g, j * 4, none⟩) (n - j) (c - j)) (n - j) (mcells (L.drop j))) := Lib.hid (own_back O6.out HLN.out hj)
            have e0 := (Below.refl wc.heap.size wc).alloc (Nat.le_refl _) (.cells #[] 26)
            have OX : Hid ((wc.alloc (.cells #[] 26)).ownsRow wc.heap.size 26 4 (.slice (some ⟨wc.heap.size, 0, none⟩) 0 0) 0 []) := Lib.hid (World.ownsRow_lit (base := wc.heap.size) (e := 26) (size := 4) wc #[] 0 (Nat.le_refl _) (by unfold maxLen; omega) rfl)
            have HSX := Lib.hid (HSD.out.below e0)
            have O6X := Lib.hid (row_below O6.out e0)
            have EX := Lib.hid (below_end E6.out e0)
            have HBX : Hid (wc.heap.size ≤ (wc.alloc (.cells #[] 26)).heap.size) := Lib.hid e0.size
            have HGW : Hid (g < wc.heap.size ∧ w.heap.size ≤ g) := Lib.hid ⟨(O6.out.lt g rfl).2, (O6.out.lt g rfl).1⟩
            have HSZ : Hid (w.heap.size ≤ wc.heap.size) := Lib.hid E6.out.size
            have HLD : Hid ((mcells (L.drop j)).length = (n - j) * 4) := Lib.hid (by rw [mcells_length, List.length_drop, HLN.out])
            have HPM := Lib.hid (putSeq_at (x := (q, f, p, d)) HLN.out HPJ.out hj)
            clear e0 HSD O6 E6
            go_wp2_with (at_builtin; go_must (refine wpList_append_src rfl _ _ 24 rfl wc.heap.size 26 ii (.agg #[.int .i64 0, .int .i64 0, .string ⟨#[]⟩, .int .i64 0]) 4 40 Tryz.underlying24 hii hz0 hz1 hz2 rfl (by decide) (.slice (some ⟨wc.heap.size, 0, none⟩) 0 0) _ 0 (n - j) [] (mcells (L.drop j)) rfl OX.out rfl HSX.out HLD.out (mcells_one _) (by unfold maxLen; omega) (by omega) HBX.out ?_); intro v2 w2 hr2 hg2 _)
            obtain ⟨rx, rc, hrv⟩ := own_slice hr2
            subst hrv
            rw [Nat.zero_add, List.nil_append] at hr2
            rw [Nat.zero_add]
            have E2 := Lib.hid (EX.out.grown hg2 EX.out.size (fun i e => Nat.le_trans HSZ.out (OX.out.lt i e).1))
            have O2 := Lib.hid (O6X.out.kept hg2 (.inr (fun e => by have h1 := HGW.out.1; have e3 : g = wc.heap.size := Option.some.inj e; omega)))
            have R2 := Lib.hid hr2
            have E3 := Lib.hid E2.out.drew
            have O3 := Lib.hid (row_below O2.out (Below.refl _ _).drew)
            have R3 := Lib.hid (row_below R2.out (Below.refl _ _).drew)
            have C3 := CELLS.out _ E3.out
            have Z3 : Hid (wc.heap.size ≤ w2.drew.heap.size) := Lib.hid (Nat.le_trans HBX.out hg2.size)
            clear hr2 hg2 OX HSX O6X EX HBX E2 O2 R2
            go_wp2_with fail
            refine wp_region_held_drew (S := fun wx => wx.cell? ⟨b, o + k * 4, none⟩ = some (.int .i64 q) ∧ wx.cell? ⟨b, o + k * 4 + 1, none⟩ = some (.int .i64 f) ∧ wx.cell? ⟨b, o + k * 4 + 2, none⟩ = some (.string p) ∧ wx.cell? ⟨b, o + k * 4 + 3, none⟩ = some (.int .i64 d)) (by kernel_rfl) ?_ (fun hHeld => ?_)
            · exact C3
            change wpAnyH _ _ _ _ _ 12 #[false, false, false, false, false, false, false, false, false, false, false, false] _ _
            clear C3
            generalize w2.drew = wd at E3 O3 R3 Z3 hHeld ⊢
            have e0 := (Below.refl wd.heap.size wd).alloc (Nat.le_refl _) (.cells #[.int .i64 q, .int .i64 f, .string p, .int .i64 d] 26)
            have OA := Lib.hid (row_below O3.out e0)
            have RA := Lib.hid (row_below R3.out e0)
            have HSR : Hid (SrcAt (wd.alloc (.cells #[.int .i64 q, .int .i64 f, .string p, .int .i64 d] 26)) (.slice (some ⟨wd.heap.size, 0, none⟩) 1 1) 1 (mcells [(q, f, p, d)])) := Lib.hid ⟨_, _, rfl, .inr ⟨_, rfl, msg_new wd (q, f, p, d) 26⟩⟩
            have EA := Lib.hid (below_end E3.out e0)
            have HBA : Hid (w.heap.size ≤ (wd.alloc (.cells #[.int .i64 q, .int .i64 f, .string p, .int .i64 d] 26)).heap.size) := Lib.hid EA.out.size
            have h9 := own_front OA.out hj
            rw [mcells_take _ _ (by rw [HLN.out]; exact hj)] at h9
            have OF := Lib.hid h9
            clear e0 E3 O3 R3 OA h9
            refine wpAnyH_take (i := 0) (v := ?_) rfl (by kernel_rfl) (by kernel_rfl) (by kernel_rfl) (fun _ _ _ h => h) (Or.inl ⟨by rfl, ?_⟩) (by assumption) ?_
            rotate_left
            · intro w hSw; (try dsimp only at hSw); go_simp; try with_reducible rfl
            try simp only [Act.put, List.getElem_toArray, List.getElem_cons_succ, List.getElem_cons_zero, List.setIfInBounds_toArray, List.set_cons_zero, List.set_cons_succ]
            refine wpAnyH_take (i := 1) (v := ?_) rfl (by kernel_rfl) (by kernel_rfl) (by kernel_rfl) (fun _ _ _ h => h) (Or.inl ⟨by rfl, ?_⟩) (by assumption) ?_
            rotate_left
            · intro w hSw; (try dsimp only at hSw); go_simp; try with_reducible rfl
            try simp only [Act.put, List.getElem_toArray, List.getElem_cons_succ, List.getElem_cons_zero, List.setIfInBounds_toArray, List.set_cons_zero, List.set_cons_succ]
            refine wpAnyH_take (i := 2) (v := ?_) rfl (by kernel_rfl) (by kernel_rfl) (by kernel_rfl) (fun _ _ _ h => h) (Or.inl ⟨by rfl, ?_⟩) (by assumption) ?_
            rotate_left
            · intro w hSw; (try dsimp only at hSw); go_simp; try with_reducible rfl
            try simp only [Act.put, List.getElem_toArray, List.getElem_cons_succ, List.getElem_cons_zero, List.setIfInBounds_toArray, List.set_cons_zero, List.set_cons_succ]
            refine wpAnyH_take (i := 3) (v := ?_) rfl (by kernel_rfl) (by kernel_rfl) (by kernel_rfl) (fun _ _ _ h => h) (Or.inl ⟨by rfl, ?_⟩) (by assumption) ?_
            rotate_left
            · intro w hSw; (try dsimp only at hSw); go_simp; try with_reducible rfl
            try simp only [Act.put, List.getElem_toArray, List.getElem_cons_succ, List.getElem_cons_zero, List.setIfInBounds_toArray, List.set_cons_zero, List.set_cons_succ]
            refine wpAnyH_take (i := 4) (v := ?_) rfl (by kernel_rfl) (by kernel_rfl) (by kernel_rfl) (fun _ _ _ h => h) (Or.inl ⟨by rfl, ?_⟩) (by assumption) ?_
            rotate_left
            · intro w hSw; (try dsimp only at hSw); go_simp; try with_reducible rfl
            try simp only [Act.put, List.getElem_toArray, List.getElem_cons_succ, List.getElem_cons_zero, List.setIfInBounds_toArray, List.set_cons_zero, List.set_cons_succ]
            refine wpAnyH_take (i := 5) (v := ?_) rfl (by kernel_rfl) (by kernel_rfl) (by kernel_rfl) (fun _ _ _ h => h) (Or.inl ⟨by rfl, ?_⟩) (by assumption) ?_
            rotate_left
            · intro w hSw; (try dsimp only at hSw); go_simp; try with_reducible rfl
            try simp only [Act.put, List.getElem_toArray, List.getElem_cons_succ, List.getElem_cons_zero, List.setIfInBounds_toArray, List.set_cons_zero, List.set_cons_succ]
            refine wpAnyH_take (i := 6) (v := ?_) rfl (by kernel_rfl) (by kernel_rfl) (by kernel_rfl) (fun _ _ _ h => h) (Or.inl ⟨by rfl, ?_⟩) (by assumption) ?_
            rotate_left
            · intro w hSw; (try dsimp only at hSw); go_simp; try with_reducible rfl
            try simp only [Act.put, List.getElem_toArray, List.getElem_cons_succ, List.getElem_cons_zero, List.setIfInBounds_toArray, List.set_cons_zero, List.set_cons_succ]
            refine wpAnyH_take (i := 9) (v := ?_) rfl (by kernel_rfl) (by kernel_rfl) (by kernel_rfl) (fun _ _ _ h => h) (Or.inl ⟨by rfl, ?_⟩) (by assumption) ?_
            rotate_left
            · intro w hSw; (try dsimp only at hSw); go_simp; try with_reducible rfl
            try simp only [Act.put, List.getElem_toArray, List.getElem_cons_succ, List.getElem_cons_zero, List.setIfInBounds_toArray, List.set_cons_zero, List.set_cons_succ]
            refine wpAnyH_ready (rs := [7]) (by kernel_rfl) (by simp) (AllReadyH.cons rfl (fun K hK => ?_) AllReadyH.nil)
            rw [if_pos (by rfl)]
            go_simp
            refine hK.out _ _ ?_ (fun hHeld => ?_)
            · exact CELLS.out _ EA.out
            clear hK K
            try simp only [Act.put, List.getElem_toArray, List.getElem_cons_succ, List.getElem_cons_zero, List.setIfInBounds_toArray, List.set_cons_zero, List.set_cons_succ]
            refine wpAnyH_ready (rs := [8]) (by kernel_rfl) (by simp) (AllReadyH.cons rfl (fun K hK => ?_) AllReadyH.nil)
            rw [if_pos (by rfl)]
            refine wp_append_src (.tmp 55) (.tmp 60) 24 rfl w.heap.size 26 ii (.agg #[.int .i64 0, .int .i64 0, .string ⟨#[]⟩, .int .i64 0]) 4 40 Tryz.underlying24 hii hz0 hz1 hz2 rfl (by decide) _ (.slice (some ⟨wd.heap.size, 0, none⟩) 1 1) j 1 (mcells (L.take j)) (mcells [(q, f, p, d)]) (by simp [Act.eval]) OF.out (by simp [Act.eval]) HSR.out rfl (mcells_one _) (by unfold maxLen; omega) (by omega) HBA.out ?_; intro v4 w4 hr4 hg4 _; have E4 := Lib.hid (EA.out.grown hg4 EA.out.size (fun i e => (OF.out.lt i e).1)); have R4 := Lib.hid (RA.out.kept hg4 (by cases e : (Value.slice rx (n - j) rc).ownBlock with | none => exact .inl rfl | some bb => exact .inr (fun e2 => by have h1 := (RA.out.lt bb e).1; have h2 := HGW.out.1; have e3 : bb = g := Option.some.inj e2; omega))); have O4 := Lib.hid hr4; clear hr4 hg4 OF RA HSR EA HBA
            refine hK.out _ _ ?_ (fun hHeld => ?_)
            · exact CELLS.out _ E4.out
            clear hK K
            try simp only [Act.put, List.getElem_toArray, List.getElem_cons_succ, List.getElem_cons_zero, List.setIfInBounds_toArray, List.set_cons_zero, List.set_cons_succ]
            refine wpAnyH_ready (rs := [10]) (by kernel_rfl) (by simp) (AllReadyH.cons rfl (fun K hK => ?_) AllReadyH.nil)
            rw [if_pos (by rfl)]
            refine wp_append_src (.tmp 61) (.tmp 62) 24 rfl w.heap.size 26 ii (.agg #[.int .i64 0, .int .i64 0, .string ⟨#[]⟩, .int .i64 0]) 4 40 Tryz.underlying24 hii hz0 hz1 hz2 rfl (by decide) v4 (.slice rx (n - j) rc) (j + 1) (n - j) (mcells (L.take j) ++ mcells [(q, f, p, d)]) (mcells (L.drop j)) (by simp [Act.eval]) O4.out (by simp [Act.eval]) (SrcAt.own R4.out) HLD.out (mcells_one _) (by unfold maxLen; omega) (by omega) E4.out.size ?_; intro v5 w5 hr5 hg5 _; obtain ⟨gy, yc, hyv⟩ := Joins.ownsRow_form hr5 (by omega); subst hyv; have E5 := Lib.hid (E4.out.grown hg5 E4.out.size (fun i e => (O4.out.lt i e).1)); have O5 := Lib.hid hr5; clear hr5 hg5 O4 R4 E4
            refine hK.out _ _ ?_ (fun hHeld => ?_)
            · exact CELLS.out _ E5.out
            clear hK K
            try simp only [Act.put, List.getElem_toArray, List.getElem_cons_succ, List.getElem_cons_zero, List.setIfInBounds_toArray, List.set_cons_zero, List.set_cons_succ]
            refine wpAnyH_take (i := 11) (v := ?_) rfl (by kernel_rfl) (by kernel_rfl) (by kernel_rfl) (fun _ _ _ h => h) (Or.inl ⟨by rfl, ?_⟩) (by assumption) ?_
            rotate_left
            · intro w hSw; (try dsimp only at hSw); go_simp; try with_reducible rfl
            try simp only [Act.put, List.getElem_toArray, List.getElem_cons_succ, List.getElem_cons_zero, List.setIfInBounds_toArray, List.set_cons_zero, List.set_cons_succ]
            refine wpAnyH_done (by kernel_rfl) ?_ _
            clear hHeld
            have ON : Hid (MOwn w5 w.heap.size (.slice (some ⟨gy, 0, none⟩) (j + 1 + (n - j)) yc) (putSeq L (q, f, p, d))) := Lib.hid (by unfold MOwn; rw [HPM.out.1, HPM.out.2]; exact O5.out)
            clear O5
            go_wp2
            go_roundw
            case rel => exact ⟨k + 1, putSeq L (q, f, p, d), gy, j + 1 + (n - j), yc, by omega, by go_num, rfl, HN, Lib.hid HPM.out.1, by omega, ON, E5⟩
            case measure => simp [intOf]; omega
    · obtain rfl : k = l.length := by omega
      go_wp2
      go_ret
      exact ⟨_, rfl, by rw [HE.out, HT.out]; unfold MOwn; rw [HLN.out]; have h := HO.out; unfold MOwn at h; rw [HLN.out] at h; exact h, HB.out⟩

end Go.Proofs.YtgkfnmbjlfmcmaaGreatDoor
