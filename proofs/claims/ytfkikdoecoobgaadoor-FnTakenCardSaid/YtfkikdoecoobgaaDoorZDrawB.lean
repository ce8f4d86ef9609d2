/- The walk of the reference's draw of a box. -/
import Derived.Test.YtfkikdoecoobgaaDoorZB5
import Derived.Test.YtfkikdoecoobgaaDoorZSOff
import Derived.Test.YtfkikdoecoobgaaDoorZSTake
import Derived.Test.YtfkikdoecoobgaaDoorZB3
set_option linter.unusedSimpArgs false
set_option linter.unusedVariables false
namespace Go.Proofs.YtfkikdoecoobgaaDoor
open Go.RowKit

theorem curFrom14_any {g : Nat} {a : Option Addr} {len cap : Nat} {w : World} (h : Curs g a len cap w) :
    Calls Tryd.prog 33 #[.pointer (some ⟨g, 0, none⟩), .int .i64 1, .int .i64 4] w fun e w' => ∃ x : Int, e = .returned (.int .i64 x) ∧ Curs g a len cap w' ∧ w.grownBy w' (some g) := by
  have HH := Lib.hid h
  clear h
  go_enter Tryd.func33, Tryd.ntmps33
  go_wp2_with fail
  refine (curBelow_any 4 (by omega) HH.out).mono ?_
  rintro e w1 ⟨r, hr, rfl, h1, g1⟩
  have H1 := Lib.hid h1
  have G1 := Lib.hid g1
  clear h1 g1 HH
  go_wp2
  go_ret
  exact ⟨_, rfl, H1.out, G1.out⟩

theorem curFrom05_any {g : Nat} {a : Option Addr} {len cap : Nat} {w : World} (h : Curs g a len cap w) :
    Calls Tryd.prog 33 #[.pointer (some ⟨g, 0, none⟩), .int .i64 0, .int .i64 5] w fun e w' => ∃ x : Int, e = .returned (.int .i64 x) ∧ Curs g a len cap w' ∧ w.grownBy w' (some g) := by
  have HH := Lib.hid h
  clear h
  go_enter Tryd.func33, Tryd.ntmps33
  go_wp2_with fail
  refine (curBelow_any 6 (by omega) HH.out).mono ?_
  rintro e w1 ⟨r, hr, rfl, h1, g1⟩
  have H1 := Lib.hid h1
  have G1 := Lib.hid g1
  clear h1 g1 HH
  go_wp2
  go_ret
  exact ⟨_, rfl, H1.out, G1.out⟩

theorem curFrom10_any {g : Nat} {a : Option Addr} {len cap : Nat} {w : World} (h : Curs g a len cap w) :
    Calls Tryd.prog 33 #[.pointer (some ⟨g, 0, none⟩), .int .i64 (-1), .int .i64 0] w fun e w' => ∃ x : Int, e = .returned (.int .i64 x) ∧ Curs g a len cap w' ∧ w.grownBy w' (some g) := by
  have HH := Lib.hid h
  clear h
  go_enter Tryd.func33, Tryd.ntmps33
  go_wp2_with fail
  refine (curBelow_any 2 (by omega) HH.out).mono ?_
  rintro e w1 ⟨r, hr, rfl, h1, g1⟩
  have H1 := Lib.hid h1
  have G1 := Lib.hid g1
  clear h1 g1 HH
  go_wp2
  go_ret
  exact ⟨_, rfl, H1.out, G1.out⟩

theorem newB_q (cap pol : Int) : (newB cap pol).1.q = [] := by unfold newB; split <;> rfl

set_option maxRecDepth 100000 in
set_option maxHeartbeats 3200000 in
theorem draw7_any {g : Nat} {a : Option Addr} {len cap : Nat} {w : World} (h : Curs g a len cap w) :
    Calls Tryd.prog 30 #[.pointer (some ⟨g, 0, none⟩)] w fun e w' => ∃ b u, e = .returned (bagg b u) ∧ MOwn w' w.heap.size u b.q ∧ ShortQ 9 b.q ∧ Curs g a len cap w' ∧ w.grownBy w' (some g) := by
  have hg := h.lt
  have HH := Lib.hid h
  clear h
  go_enter Tryd.func30, Tryd.ntmps30
  go_upto_region 1 with (fail)
  have X0 := BBox.new w 26 zeroBox (.slice none 0 0)
  have G0 := grown_alloc w (.cells (bcells zeroBox (.slice none 0 0)) 26) (some g)
  have C0 := HH.out.alloc (.cells (bcells zeroBox (.slice none 0 0)) 26)
  change Code.wp _ _ _ _ (w.alloc (.cells (bcells zeroBox (.slice none 0 0)) 26))
  generalize w.alloc (.cells (bcells zeroBox (.slice none 0 0)) 26) = w0 at X0 G0 C0 ⊢
  go_wp2_with fail
  refine (curBelow_any 4 (by omega) C0).mono ?_
  rintro e w1 ⟨r, hr, rfl, h1, g1⟩
  have X1 := X0.grown g1 (by omega)
  have G1 := grown_trans G0 g1
  clear X0 G0 C0 g1 hr HH
  obtain ⟨y, hy⟩ : ∃ y, IntKind.i64.wrap (1 + (r : Int)) = y := ⟨_, rfl⟩
  go_wp2_with fail
  refine (curFrom14_any h1).mono ?_
  rintro e w2 ⟨x, rfl, h2, g2⟩
  have X2 := X1.grown g2 (by omega)
  have G2 := grown_trans G1 g2
  clear X1 G1 h1 g2
  go_wp2_with fail
  refine (specNewBox_any _ _ _).mono ?_
  rintro e w3 ⟨rfl, hb⟩
  have X3 := X2.below hb
  have G3 := grown_own G2 (hb.mono G2.size)
  have C3 := h2.after hb
  obtain ⟨b0, hb0⟩ : ∃ b0, (newB y x).1 = b0 := ⟨_, rfl⟩
  have hq0 := newB_q y x
  rw [hb0] at hq0 ⊢
  obtain ⟨ok, hok⟩ : ∃ ok, (newB y x).2 = ok := ⟨_, rfl⟩
  rw [hok]
  clear hb0 hok X2 G2 h2 hb
  go_upto_region 2 with (fail)
  have hb4 : Below w3.heap.size w3 (w3.alloc (.cells (bcells b0 (.slice none 0 0)) 26)) := (Below.refl _ _).alloc (Nat.le_refl _) _
  have D4 : DBox w (w3.alloc (.cells (bcells b0 (.slice none 0 0)) 26)) g a len cap w3.heap.size b0 (.slice none 0 0) := ⟨BBox.new _ _ _ _, X3.below hb4, by rw [hq0]; exact World.ownsRow_nil _ _ _ _, X3.lt, C3.after hb4, hg, grown_own G3 (hb4.mono G3.size)⟩
  generalize w3.alloc (.cells (bcells b0 (.slice none 0 0)) 26) = w4 at D4 ⊢
  obtain ⟨M, hM⟩ : ∃ M, w3.heap.size = M := ⟨_, rfl⟩
  rw [hM] at D4 ⊢
  clear hM X3 G3 C3 hb4
  go_wp2_with fail
  refine (curBelow_any 9 (by omega) D4.cur).mono ?_
  rintro e w5 ⟨n, hn, rfl, h5, g5⟩
  have D5 := Lib.hid (D4.turn h5 g5)
  have hn9 : n ≤ 9 := by unfold BelowN at hn; omega
  have HS0 : Hid (ShortQ (9 - n) b0.q) := Lib.hid (by rw [hq0]; exact ShortQ.nil _)
  clear D4 h5 g5 hn hq0
  go_wp2
  go_loopw [5] (fun i wr => ∃ (k : Nat) (b : BoxM) (u : Value), k ≤ 9 ∧ i = .int .i64 k ∧ Hid (ShortQ (9 - k) b.q) ∧ Hid (DBox w wr g a len cap M b u)) (fun i _ => (intOf i).toNat)
  case atStart => exact ⟨n, b0, _, hn9, rfl, HS0, D5⟩
  case round =>
    obtain ⟨k, b, u, hk, rfl, HS, HD⟩ := hrel
    clear HS0 D5
    obtain ⟨ua, uc, hu⟩ := own_slice HD.out.row
    subst hu
    by_cases hk0 : 0 < k
    · have g0 : decide ((0 : Int) < (k : Int)) = true := decide_eq_true (by omega)
      have g0' : decide (0 < k) = true := decide_eq_true hk0
      have e1 : IntKind.i64.wrap ((k : Int) - 1) = ((k - 1 : Nat) : Int) := by rw [IntKind.wrap_i64]; omega
      go_wp2_with fail
      refine (curOnce_any 4 (by omega) HD.out.cur).mono ?_
      rintro e v1 ⟨c, rfl, h1, g1⟩
      have D1 := HD.out.turn h1 g1
      clear HD h1 g1
      obtain ⟨hs1, hs2⟩ := ShortQ.small HS.out (by omega)
      cases c
      · go_wp2_with fail
        have CO := Lib.hid (fun wx (x : MsgM) (hx : ShortM x) (h : MsgsAt wx (.slice ua b.q.length uc) b.q) => specOffered_any b (.slice ua b.q.length uc) x wx hs1 hs2 (Nat.le_trans hx (by decide)) h)
        have D1d := D1.below (Below.refl _ _).drew
        clear D1 hs1 hs2
        refine wp_region_held_drew (S := fun _ => True) (by kernel_rfl) ?_ (fun hHeld => ?_)
        · trivial
        change wpAnyH _ _ _ _ _ 9 #[false, false, false, false, false, false, false, false, false] _ _
        generalize v1.drew = vd at D1d hHeld ⊢
        refine wpAnyH_take (i := 1) (v := ?_) rfl (by kernel_rfl) (by kernel_rfl) (by kernel_rfl) (fun _ _ _ h => h) (Or.inl ⟨by rfl, ?_⟩) (by assumption) ?_
        rotate_left
        · intro w hSw; (try dsimp only at hSw); go_simp; try with_reducible rfl
        try simp only [Act.put, List.getElem_toArray, List.getElem_cons_succ, List.getElem_cons_zero, List.setIfInBounds_toArray, List.set_cons_zero, List.set_cons_succ]
        refine wpAnyH_take (i := 2) (v := ?_) rfl (by kernel_rfl) (by kernel_rfl) (by kernel_rfl) (fun _ _ _ h => h) (Or.inl ⟨by rfl, ?_⟩) (by assumption) ?_
        rotate_left
        · intro w hSw; (try dsimp only at hSw); go_simp; try with_reducible rfl
        try simp only [Act.put, List.getElem_toArray, List.getElem_cons_succ, List.getElem_cons_zero, List.setIfInBounds_toArray, List.set_cons_zero, List.set_cons_succ]
        refine wpAnyH_ready (rs := [0, 3]) (by kernel_rfl) (by simp) (AllReadyH.cons rfl (fun K hK => ?_) (AllReadyH.cons rfl (fun K hK => ?_) AllReadyH.nil))
        · skip
          rw [if_pos (by rfl)]
          refine wp_load_row 26 (.tmp 3) rfl M rfl 26 (bcells b (.slice ua b.q.length uc)) (0, 0) _ D1d.box Tryd.underlying26 rfl (by kernel_rfl) ?_
          refine hK.out _ _ ?_ (fun hHeld => ?_)
          · trivial
          clear hK K
          try simp only [Act.put, List.getElem_toArray, List.getElem_cons_succ, List.getElem_cons_zero, List.setIfInBounds_toArray, List.set_cons_zero, List.set_cons_succ]
          refine wpAnyH_ready (rs := [3]) (by kernel_rfl) (by simp) (AllReadyH.cons rfl (fun K hK => ?_) AllReadyH.nil)
          rw [if_pos (by rfl)]
          go_simp; go_at_call 43; refine (draw4_any _ D1d.cur).mono ?_; rintro e v3 ⟨x, rfl, hx, h3, g3⟩; have D3 := D1d.turn h3 g3; clear D1d h3 g3; go_wp2_with fail
          refine hK.out _ _ ?_ (fun hHeld => ?_)
          · trivial
          clear hK K
          try simp only [Act.put, List.getElem_toArray, List.getElem_cons_succ, List.getElem_cons_zero, List.setIfInBounds_toArray, List.set_cons_zero, List.set_cons_succ]
          refine wpAnyH_ready (rs := [4]) (by kernel_rfl) (by simp) (AllReadyH.cons rfl (fun K hK => ?_) AllReadyH.nil)
          rw [if_pos (by rfl)]
          go_simp; go_at_call 16; refine (CO.out _ x hx (own_msgs_at D3.row)).mono ?_; rintro e v4 ⟨u4, rfl, ho, hb⟩; have D4 := D3.below hb; have O4 := own_mono ho (A := w.heap.size) D3.since.size; have S4 := Lib.hid (HS.out.offer hx); obtain ⟨xa, xc, hu4⟩ := own_slice ho; subst hu4; clear D3 ho hb CO; go_wp2_with fail
          refine hK.out _ _ ?_ (fun hHeld => ?_)
          · trivial
          clear hK K
          try simp only [Act.put, List.getElem_toArray, List.getElem_cons_succ, List.getElem_cons_zero, List.setIfInBounds_toArray, List.set_cons_zero, List.set_cons_succ]
          refine wpAnyH_take (i := 5) (v := ?_) rfl (by kernel_rfl) (by kernel_rfl) (by kernel_rfl) (fun _ _ _ h => h) (Or.inl ⟨by rfl, ?_⟩) (by assumption) ?_
          rotate_left
          · intro w hSw; (try dsimp only at hSw); go_simp; try with_reducible rfl
          try simp only [Act.put, List.getElem_toArray, List.getElem_cons_succ, List.getElem_cons_zero, List.setIfInBounds_toArray, List.set_cons_zero, List.set_cons_succ]
          refine wpAnyH_take (i := 6) (v := ?_) rfl (by kernel_rfl) (by kernel_rfl) (by kernel_rfl) (fun _ _ _ h => h) (Or.inl ⟨by rfl, ?_⟩) (by assumption) ?_
          rotate_left
          · intro w hSw; (try dsimp only at hSw); go_simp; try with_reducible rfl
          try simp only [Act.put, List.getElem_toArray, List.getElem_cons_succ, List.getElem_cons_zero, List.setIfInBounds_toArray, List.set_cons_zero, List.set_cons_succ]
          refine wpAnyH_take (i := 7) (v := ?_) rfl (by kernel_rfl) (by kernel_rfl) (by kernel_rfl) (fun _ _ _ h => h) (Or.inl ⟨by rfl, ?_⟩) (by assumption) ?_
          rotate_left
          · intro w hSw; (try dsimp only at hSw); go_simp; try with_reducible rfl
          try simp only [Act.put, List.getElem_toArray, List.getElem_cons_succ, List.getElem_cons_zero, List.setIfInBounds_toArray, List.set_cons_zero, List.set_cons_succ]
          obtain ⟨b4, hb4⟩ : ∃ b4, (offerM b x).1 = b4 := ⟨_, rfl⟩
          simp only [hb4] at O4 S4 ⊢
          clear hb4
          refine wpAnyH_ready (rs := [8]) (by kernel_rfl) (by simp) (AllReadyH.cons rfl (fun K hK => ?_) AllReadyH.nil)
          rw [if_pos (by rfl)]
          refine wp_store_row 26 (.tmp 3) (.tmp 35) rfl M (bcells b4 (.slice xa b4.q.length xc)) rfl rfl 26 _ D4.box (by kernel_rfl) rfl (bcells_one _ _ _ _) ?_
          refine hK.out _ _ ?_ (fun hHeld => ?_)
          · trivial
          clear hK K
          try simp only [Act.put, List.getElem_toArray, List.getElem_cons_succ, List.getElem_cons_zero, List.setIfInBounds_toArray, List.set_cons_zero, List.set_cons_succ]
          refine wpAnyH_done (by kernel_rfl) ?_ _
          have D5 := Lib.hid (D4.putRow O4)
          generalize v4.setRow M (bcells b4 (.slice xa b4.q.length xc)) = v5 at D5 ⊢
          clear D4 O4 hHeld
          go_wp2
          go_roundw
          case rel => exact ⟨k - 1, b4, _, by omega, by go_num, Lib.hid (S4.out.mono (by omega)), D5⟩
          case measure => simp [intOf]; omega
        · skip
          rw [if_pos (by rfl)]
          go_simp; go_at_call 43; refine (draw4_any _ D1d.cur).mono ?_; rintro e v3 ⟨x, rfl, hx, h3, g3⟩; have D3 := D1d.turn h3 g3; clear D1d h3 g3; go_wp2_with fail
          refine hK.out _ _ ?_ (fun hHeld => ?_)
          · trivial
          clear hK K
          try simp only [Act.put, List.getElem_toArray, List.getElem_cons_succ, List.getElem_cons_zero, List.setIfInBounds_toArray, List.set_cons_zero, List.set_cons_succ]
          refine wpAnyH_ready (rs := [0]) (by kernel_rfl) (by simp) (AllReadyH.cons rfl (fun K hK => ?_) AllReadyH.nil)
          rw [if_pos (by rfl)]
          refine wp_load_row 26 (.tmp 3) rfl M rfl 26 (bcells b (.slice ua b.q.length uc)) (0, 0) _ D3.box Tryd.underlying26 rfl (by kernel_rfl) ?_
          refine hK.out _ _ ?_ (fun hHeld => ?_)
          · trivial
          clear hK K
          try simp only [Act.put, List.getElem_toArray, List.getElem_cons_succ, List.getElem_cons_zero, List.setIfInBounds_toArray, List.set_cons_zero, List.set_cons_succ]
          refine wpAnyH_ready (rs := [4]) (by kernel_rfl) (by simp) (AllReadyH.cons rfl (fun K hK => ?_) AllReadyH.nil)
          rw [if_pos (by rfl)]
          go_simp; go_at_call 16; refine (CO.out _ x hx (own_msgs_at D3.row)).mono ?_; rintro e v4 ⟨u4, rfl, ho, hb⟩; have D4 := D3.below hb; have O4 := own_mono ho (A := w.heap.size) D3.since.size; have S4 := Lib.hid (HS.out.offer hx); obtain ⟨xa, xc, hu4⟩ := own_slice ho; subst hu4; clear D3 ho hb CO; go_wp2_with fail
          refine hK.out _ _ ?_ (fun hHeld => ?_)
          · trivial
          clear hK K
          try simp only [Act.put, List.getElem_toArray, List.getElem_cons_succ, List.getElem_cons_zero, List.setIfInBounds_toArray, List.set_cons_zero, List.set_cons_succ]
          refine wpAnyH_take (i := 5) (v := ?_) rfl (by kernel_rfl) (by kernel_rfl) (by kernel_rfl) (fun _ _ _ h => h) (Or.inl ⟨by rfl, ?_⟩) (by assumption) ?_
          rotate_left
          · intro w hSw; (try dsimp only at hSw); go_simp; try with_reducible rfl
          try simp only [Act.put, List.getElem_toArray, List.getElem_cons_succ, List.getElem_cons_zero, List.setIfInBounds_toArray, List.set_cons_zero, List.set_cons_succ]
          refine wpAnyH_take (i := 6) (v := ?_) rfl (by kernel_rfl) (by kernel_rfl) (by kernel_rfl) (fun _ _ _ h => h) (Or.inl ⟨by rfl, ?_⟩) (by assumption) ?_
          rotate_left
          · intro w hSw; (try dsimp only at hSw); go_simp; try with_reducible rfl
          try simp only [Act.put, List.getElem_toArray, List.getElem_cons_succ, List.getElem_cons_zero, List.setIfInBounds_toArray, List.set_cons_zero, List.set_cons_succ]
          refine wpAnyH_take (i := 7) (v := ?_) rfl (by kernel_rfl) (by kernel_rfl) (by kernel_rfl) (fun _ _ _ h => h) (Or.inl ⟨by rfl, ?_⟩) (by assumption) ?_
          rotate_left
          · intro w hSw; (try dsimp only at hSw); go_simp; try with_reducible rfl
          try simp only [Act.put, List.getElem_toArray, List.getElem_cons_succ, List.getElem_cons_zero, List.setIfInBounds_toArray, List.set_cons_zero, List.set_cons_succ]
          obtain ⟨b4, hb4⟩ : ∃ b4, (offerM b x).1 = b4 := ⟨_, rfl⟩
          simp only [hb4] at O4 S4 ⊢
          clear hb4
          refine wpAnyH_ready (rs := [8]) (by kernel_rfl) (by simp) (AllReadyH.cons rfl (fun K hK => ?_) AllReadyH.nil)
          rw [if_pos (by rfl)]
          refine wp_store_row 26 (.tmp 3) (.tmp 35) rfl M (bcells b4 (.slice xa b4.q.length xc)) rfl rfl 26 _ D4.box (by kernel_rfl) rfl (bcells_one _ _ _ _) ?_
          refine hK.out _ _ ?_ (fun hHeld => ?_)
          · trivial
          clear hK K
          try simp only [Act.put, List.getElem_toArray, List.getElem_cons_succ, List.getElem_cons_zero, List.setIfInBounds_toArray, List.set_cons_zero, List.set_cons_succ]
          refine wpAnyH_done (by kernel_rfl) ?_ _
          have D5 := Lib.hid (D4.putRow O4)
          generalize v4.setRow M (bcells b4 (.slice xa b4.q.length xc)) = v5 at D5 ⊢
          clear D4 O4 hHeld
          go_wp2
          go_roundw
          case rel => exact ⟨k - 1, b4, _, by omega, by go_num, Lib.hid (S4.out.mono (by omega)), D5⟩
          case measure => simp [intOf]; omega
      · have CT := Lib.hid (fun wx (h : MsgsAt wx (.slice ua b.q.length uc) b.q) => specTaken_any b (.slice ua b.q.length uc) wx hs1 hs2 h)
        clear hs1 hs2
        go_wp2_with (first
          | refine wpList_load_row rfl 26 (.tmp 3) rfl M rfl 26 (bcells b (.slice ua b.q.length uc)) (0, 0) _ D1.box Tryd.underlying26 rfl (by kernel_rfl) ?_)
        refine (CT.out _ (own_msgs_at D1.row)).mono ?_
        rintro e v2 ⟨u2, rfl, ho, hb⟩
        have D2 := D1.below hb
        have O2 := own_mono ho (A := w.heap.size) D1.since.size
        have S2 := Lib.hid HS.out.take
        obtain ⟨xa, xc, hu2⟩ := own_slice ho
        subst hu2
        obtain ⟨b2, hb2⟩ : ∃ b2, (takeM b).1 = b2 := ⟨_, rfl⟩
        obtain ⟨x2, hx2⟩ : ∃ x2, (takeM b).2.1 = x2 := ⟨_, rfl⟩
        obtain ⟨y2, hy2⟩ : ∃ y2, (takeM b).2.2 = y2 := ⟨_, rfl⟩
        simp only [hb2, hx2, hy2] at O2 S2 ⊢
        clear hb2 hx2 hy2 D1 ho hb CT
        go_upto_region 4 with (first
          | refine wpList_store_rowTo rfl 26 (.tmp 3) _ rfl rfl M (bcells b2 (.slice xa b2.q.length xc)) rfl rfl 26 _ D2.box (by kernel_rfl) rfl (bcells_one _ _ _ _) ?_)
        have D3 := Lib.hid (D2.putRow O2)
        generalize v2.setRow M (bcells b2 (.slice xa b2.q.length xc)) = v3 at D3 ⊢
        clear D2 O2
        go_wp2
        go_roundw
        case rel => exact ⟨k - 1, b2, _, by omega, by go_num, Lib.hid (S2.out.mono (by omega)), D3⟩
        case measure => simp [intOf]; omega
    · obtain rfl : k = 0 := by omega
      go_wp2_with fail
      refine (curOnce_any 8 (by omega) HD.out.cur).mono ?_
      rintro e v1 ⟨c, rfl, h1, g1⟩
      have D1 := HD.out.turn h1 g1
      clear HD h1 g1
      have HS9 := Lib.hid (show ShortQ 9 b.q from HS.out)
      clear HS
      cases c
      · obtain ⟨B9, hB9⟩ : ∃ B9, b = B9 := ⟨_, rfl⟩
        have D9 := D1
        clear D1
        subst hB9
        go_wp2_with (first
          | refine wpList_load_row rfl 26 (.tmp 3) rfl M rfl 26 (bcells b (.slice ua b.q.length uc)) (0, 0) _ D9.box Tryd.underlying26 rfl (by kernel_rfl) ?_
          | refine wpList_store_rowTo rfl 26 (.tmp 2) _ rfl rfl w.heap.size (bcells b (.slice ua b.q.length uc)) rfl rfl 26 _ D9.res (by kernel_rfl) rfl (bcells_one _ _ _ _) ?_)
        have HX := D9.end (bcells b (.slice ua b.q.length uc))
        exact bodyPost_ret (results_cell_row rfl _ _ _ _ _ _ _ rfl HX.1 Tryd.underlying26 rfl (by kernel_rfl)) rfl ⟨b, _, rfl, HX.2.1, HS9.out, HX.2.2.1, HX.2.2.2⟩
      · have y7 : v1.cell? ⟨M, 7, none⟩ = some (.bool b.shut) := cell_of_heap D1.box 7
        have f7 : v1.frozen? ⟨M, 7, none⟩ = false := D1.box.fr 7
        go_upto_region 10 with (fail)
        have D9 := D1.set 7 (.bool true) (b' := { b with shut := true }) rfl rfl
        generalize v1.setCell ⟨M, 7, none⟩ (.bool true) = v2 at D9 ⊢
        clear D1 y7 f7
        go_wp2_with (first
          | refine wpList_load_row rfl 26 (.tmp 3) rfl M rfl 26 (bcells { b with shut := true } (.slice ua b.q.length uc)) (0, 0) _ D9.box Tryd.underlying26 rfl (by kernel_rfl) ?_
          | refine wpList_store_rowTo rfl 26 (.tmp 2) _ rfl rfl w.heap.size (bcells { b with shut := true } (.slice ua b.q.length uc)) rfl rfl 26 _ D9.res (by kernel_rfl) rfl (bcells_one _ _ _ _) ?_)
        have HX := D9.end (bcells { b with shut := true } (.slice ua b.q.length uc))
        exact bodyPost_ret (results_cell_row rfl _ _ _ _ _ _ _ rfl HX.1 Tryd.underlying26 rfl (by kernel_rfl)) rfl ⟨{ b with shut := true }, _, rfl, HX.2.1, HS9.out, HX.2.2.1, HX.2.2.2⟩

end Go.Proofs.YtfkikdoecoobgaaDoor
