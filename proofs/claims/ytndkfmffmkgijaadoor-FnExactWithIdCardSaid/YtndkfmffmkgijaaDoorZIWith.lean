/- The walk of impl.WithId. -/
import Derived.Test.YtndkfmffmkgijaaDoorZTrieW
import Derived.Test.YtndkfmffmkgijaaDoorZIPut
import Derived.Test.YtndkfmffmkgijaaDoorZIKnots
import Derived.Test.YtndkfmffmkgijaaDoorZILinked
import Derived.Test.YtndkfmffmkgijaaDoorZB2
set_option linter.unusedSimpArgs false
set_option linter.unusedVariables false
namespace Go.Proofs.YtndkfmffmkgijaaDoor
open Go.RowKit

theorem jl_take_le (P : PathM) (n : Nat) : (jl (P.take n)).length ≤ (jl P).length := by
  by_cases h : P.drop n = []
  · have := List.take_append_drop n P
    rw [h, List.append_nil] at this
    rw [this]; exact Nat.le_refl _
  · by_cases h2 : P.take n = []
    · rw [h2]; exact Nat.zero_le _
    · have := jl_append (P.take n) (P.drop n) h2 h
      rw [List.take_append_drop] at this
      rw [this]; simp

/-- What the tree of a right trie is like. -/
theorem linked_facts {l : List KnotM} {T : List NodeM} (ht : trieB l = true) (hl : KSmall l) (hk : T.map keyOf = l.map keyK) : ∀ y ∈ T, Fine y.path ∧ (jl y.path).length ≤ 1048576 ∧ rises y.ids = true := by
  intro y hy
  obtain ⟨x, hx, e1, e2⟩ := key_mem' hk hy
  have hsz : (jl y.path).length ≤ 1048576 := by rw [e1, jl_pth]; have := (hl.2 x hx).1; simpa using this
  obtain ⟨j, hj, rfl⟩ := List.mem_iff_getElem.1 hx
  by_cases h1 : 1 ≤ j
  · have h := trie_at ht hj h1
    exact ⟨by rw [e1]; exact filter_fine h.2.1, hsz, by rw [e2]; exact h.2.2.1⟩
  · obtain rfl : j = 0 := by omega
    have h0 := trie_head ht
    cases l with
    | nil => simp at hj
    | cons a l =>
      rw [headOk, Bool.and_eq_true, beq_iff_eq, list_toList] at h0
      refine ⟨?_, hsz, ?_⟩
      · rw [e1]
        have : pth (a :: l)[0].1 = [] := by show pth a.1 = []; unfold pth; rw [if_pos h0.1]
        rw [this]; intro p hp; cases hp
      · rw [e2]
        have h2 := h0.2
        have : a.2 = [] := by cases e : a.2 with | nil => rfl | cons => rw [e] at h2; simp at h2
        show rises a.2 = true
        rw [this]; rfl

theorem put_paths {id : Int} {K : List KeyM} {P Q : PathM} (hK : PathsOk (paths K)) (h0 : ([] : PathM) ∈ paths K) (hP : Good P) (h : Q ∈ paths (putKeys id K [] P).1) : Q ∈ paths K ∨ ∃ n, Q = P.take n := by
  rw [put_root id hK h0 hP] at h
  split at h
  · exact .inl h
  · dsimp only at h
    rw [addAt_paths, mem_paths] at h
    obtain ⟨a, ha, rfl⟩ := h
    rcases ((preKeys_spec P K [] hK h0 hP).2 a).1 ha with h | ⟨_, _, n, _, _, h⟩
    · exact .inl (mem_paths.2 ⟨a, h, rfl⟩)
    · exact .inr ⟨n, by simpa using h⟩

theorem putsN_len : ∀ (n : Nat) (l : List KnotM) (p : ByteArray), (putsN n l p).length ≤ l.length + n
  | 0, _, _ => Nat.le_refl _
  | n + 1, l, p => by
    rw [putsN]; split
    · omega
    · have := putsN_len n (put1 l p) (above p)
      have := (put1_length l p).1
      omega

theorem withL_len (l : List KnotM) (f : ByteArray) (id : Int) : (withL l f id).1.length ≤ l.length + f.size := by
  unfold withL
  split
  · split
    · dsimp only; omega
    · dsimp only; unfold setIds; rw [List.length_set]; exact putsN_len _ _ _
  · simp

theorem texts_row {w : World} {B : Nat} {v : Value} {l : List ByteArray} (h : w.ownsRow B 9 1 v l.length (texts l)) : TextsRow w v l := by
  rcases h.2 with ⟨rfl, h0⟩ | ⟨g, cap, cur, rfl, _, hh, hc, _, _, ht⟩
  · exact ⟨none, 0, by rw [h0], by omega, .inl (List.length_eq_zero_iff.1 h0)⟩
  · refine ⟨_, cap, rfl, hc, .inr ⟨g, 0, cur, (0, 0), rfl, hh, fun j hj => ?_⟩⟩
    rw [Nat.zero_add, ← Array.getElem?_toList]
    have h2 : (cur.toList.take (l.length * 1))[j]? = cur.toList[j]? := by rw [List.getElem?_take_of_lt (by omega)]
    rw [← h2, ht]; simp [texts, hj]

theorem knots_keys {T : List NodeM} {l : List KnotM} (h : T.map keyOf = l.map keyK) : knotsOf T = l := by
  have e : ∀ T : List NodeM, knotsOf T = (T.map keyOf).map (fun a => (bts (jl a.1), a.2)) := fun T => by unfold knotsOf; rw [List.map_map]; rfl
  rw [e, h, List.map_map]
  conv => rhs; rw [← List.map_id l]
  apply List.map_congr_left
  intro x _
  show (bts (jl (pth x.1)), x.2) = x
  rw [jl_pth, bts_of]

/-- What WithId's end leaves. -/
theorem with_end {l : List KnotM} {T : List NodeM} {x : NodeM} {w w1 : World} {B : Nat} (hN : Nodes w1 B T) (hT : TreeOk T) (hx : x ∈ T) (hx0 : x.path = []) (hB : B ≤ w1.heap.size) (hF : ∀ y ∈ T, Fine y.path) (hS : ∀ y ∈ T, (jl y.path).length ≤ 2097152) (hl : T.length ≤ 4000000)
    (hk : T.map keyOf = l.map keyK) (hb : Below B w w1) (hBw : B = w.heap.size) :
    Calls Tryd.prog 34 #[.pointer (some ⟨x.ptr, 0, none⟩)] w1 fun e w' => ∃ u, e = .returned u ∧ KOwn w' w.heap.size u l ∧ Below w.heap.size w w' := by
  refine (knotsOf_any T x w1 B hN hT hx hx0 hB hF hS hl).mono ?_
  rintro e w' ⟨u, h1, h2, h3⟩
  subst hBw
  rw [knots_keys hk] at h2
  exact ⟨u, h1, ⟨_, h2⟩, hb.trans (h3.mono hb.size)⟩


set_option maxRecDepth 100000 in
set_option maxHeartbeats 3200000 in
theorem implWith_any (v : Value) (l : List KnotM) (f : ByteArray) (id : Int) (m : Int) (w : World) (hl : KSmall l) (hfs : f.size ≤ 1048576) (hv : KnotsAt w v l) (hm : w.cell? ⟨0, 0, none⟩ = some (.int .i64 m)) :
    Calls Tryd.prog 8 #[v, .string f, .int .i64 id] w fun e w' => ∃ u, e = .returned (.tuple #[u, .bool (withL l f id).2]) ∧ KOwn w' w.heap.size u (withL l f id).1 ∧ Below w.heap.size w w' := by
  have CL := Lib.hid (linked_any v l m w hl hv hm)
  have HKS := Lib.hid hl
  have HM := Lib.hid hm
  have HFS := Lib.hid hfs
  obtain ⟨a, c, rfl, _, _, _⟩ := hv
  clear hm hl hfs
  obtain ⟨wl, hwl⟩ : ∃ wl, withL l f id = wl := ⟨_, rfl⟩
  rw [hwl]
  have HWL := Lib.hid hwl
  clear hwl
  obtain ⟨wl1, wl2⟩ := wl
  go_enter Tryd.func8, Tryd.ntmps8
  go_wp2_with fail
  refine CL.out.mono ?_
  rintro e w1 ⟨hL, hb1⟩
  have HB1 := Lib.hid hb1
  clear CL
  rcases hL with ⟨ht, rfl⟩ | ⟨ht, T, x, rfl, hx, hx0, hT, hN, hk⟩
  · have HE : Hid (wl1 = [] ∧ wl2 = false) := Lib.hid (by have := HWL.out; unfold withL at this; rw [ht] at this; cases this; exact ⟨rfl, rfl⟩)
    clear ht hb1
    obtain ⟨rfl, rfl⟩ := HE.out
    go_wp2
    go_ret2
    exact ⟨_, rfl, ⟨[], rfl, World.ownsRow_nil _ _ _ _, fun j h => absurd h (Nat.not_lt_zero _), List.pairwise_singleton _ _⟩, HB1.out⟩
  · have hfa := linked_facts ht HKS.out hk
    have HM1 := Lib.hid ((hb1.cell (World.block_lt_of_cell? _ _ HM.out)).trans HM.out)
    have CF := Lib.hid (implFilter_any f m w1 HFS.out HM1.out)
    have hPO : PathsOk (paths (l.map keyK)) := by rw [← hk]; exact tree_paths hT
    have h0 : ([] : PathM) ∈ paths (l.map keyK) := by rw [← hk, paths_keys]; exact List.mem_map.2 ⟨x, hx, hx0⟩
    have hTl : T.length ≤ 1048576 := by have := congrArg List.length hk; simp at this; have := HKS.out.1; omega
    cases hf : filterP (parts f 47)
    · rw [hf] at CF
      have HE : Hid (wl1 = l ∧ wl2 = false) := Lib.hid (by have := HWL.out; unfold withL at this; rw [if_pos ht, bad_id hPO, hf] at this; cases this; exact ⟨rfl, rfl⟩)
      have HKN := Lib.hid (fun (w3 : World) (hb : Below w1.heap.size w1 w3) => with_end (l := l) (B := w.heap.size) (w := w) (w1 := w3) (hN.below hb) hT hx hx0 (Nat.le_trans hb1.size hb.size) (fun y hy => (hfa y hy).1) (fun y hy => by have := (hfa y hy).2.1; omega) (by omega) hk (hb1.trans (hb.mono hb1.size)) rfl)
      clear hf hPO h0 hTl hfa hx hx0 hT hN hk ht hb1
      obtain ⟨rfl, rfl⟩ := HE.out
      go_wp2_with fail
      refine CF.out.mono ?_
      rintro e w2 ⟨rfl, hb2⟩
      have HEND := Lib.hid (HKN.out w2 hb2)
      clear CF hb2 HKN
      go_wp2_with fail
      refine HEND.out.mono ?_
      rintro e w9 ⟨u, rfl, h8, h9⟩
      have H8 := Lib.hid h8
      have H9 := Lib.hid h9
      clear h8 h9 HEND
      go_wp2
      go_ret2
      exact ⟨_, rfl, H8.out, H9.out⟩
    · rw [hf] at CF
      cases hid : idOk id
      · have HE : Hid (wl1 = l ∧ wl2 = false) := Lib.hid (by have := HWL.out; unfold withL at this; rw [if_pos ht, bad_id hPO, hf, hid] at this; cases this; exact ⟨rfl, rfl⟩)
        have HKN := Lib.hid (fun (w3 : World) (hb : Below w1.heap.size w1 w3) => with_end (l := l) (B := w.heap.size) (w := w) (w1 := w3) (hN.below hb) hT hx hx0 (Nat.le_trans hb1.size hb.size) (fun y hy => (hfa y hy).1) (fun y hy => by have := (hfa y hy).2.1; omega) (by omega) hk (hb1.trans (hb.mono hb1.size)) rfl)
        have CI := Lib.hid (fun wx => implId_any id wx)
        rw [hid] at CI
        clear hf hPO h0 hTl hfa hx hx0 hT hN hk ht hb1 hid
        obtain ⟨rfl, rfl⟩ := HE.out
        go_wp2_with fail
        refine CF.out.mono ?_
        rintro e w2 ⟨rfl, hb2⟩
        have HEND := Lib.hid (HKN.out w2 hb2)
        clear CF hb2 HKN
        go_wp2_with fail
        refine (CI.out _).mono ?_
        rintro e w2 ⟨rfl, rfl⟩
        go_wp2_with fail
        refine HEND.out.mono ?_
        rintro e w9 ⟨u, rfl, h8, h9⟩
        have H8 := Lib.hid h8
        have H9 := Lib.hid h9
        clear h8 h9 HEND
        go_wp2
        go_ret2
        exact ⟨_, rfl, H8.out, H9.out⟩
      · have CI := Lib.hid (fun wx => implId_any id wx)
        rw [hid] at CI
        obtain ⟨hpe, hpg, hpne⟩ := filter_good hf
        have hwk := with_keys ht hPO h0 hf hid
        rw [HWL.out] at hwk
        have HWK := Lib.hid hwk
        have hpl := parts_le f 47
        have HPUT := Lib.hid (fun (w3 : World) (pv : Value) (hb : Below w1.heap.size w1 w3) (hr : TextsRow w3 pv (parts f 47)) => put_any id w.heap.size (parts f 47) T x w3 pv hx hT (hN.below hb) (Nat.le_trans hb1.size hb.size) hr (by rw [hx0, List.nil_append]; show Good (lists (parts f 47)); unfold lists; rw [← hpe]; exact hpg) (fun y hy => (hfa y hy).2.2) (by have := HFS.out; omega))
        have HKN := Lib.hid (fun (w3 w4 : World) (e : Ending) (hb : Below w1.heap.size w1 w3) (hp : PutAt id w3 w.heap.size T x.path (parts f 47) e w4) => show e = .returned (.bool wl2) ∧ Calls Tryd.prog 34 #[.pointer (some ⟨x.ptr, 0, none⟩)] w4 fun e w' => ∃ u, e = .returned u ∧ KOwn w' w.heap.size u wl1 ∧ Below w.heap.size w w' by
          obtain ⟨p1, T', p2, p3, p4, p5, p6, p7⟩ := hp
          have hlp : lists (parts f 47) = pth f := hpe.symm
          rw [hx0, hlp, hk] at p1 p7
          obtain ⟨z, hz, hz1, hz2⟩ := p6 x hx
          have hkk : T'.map keyOf = wl1.map keyK := by rw [p7, hwk.1]
          have hTl' : T'.length ≤ 4000000 := by
            have e1 := congrArg List.length hkk
            have e2 := withL_len l f id
            rw [HWL.out] at e2
            simp only [List.length_map] at e1
            have := HKS.out.1; have := HFS.out
            dsimp only at e2
            omega
          have hpf : ∀ y ∈ T', Fine y.path ∧ (jl y.path).length ≤ 1048576 := fun y hy => by
            have h1 : y.path ∈ paths (putKeys id (l.map keyK) [] (pth f)).1 := by rw [← p7, paths_keys]; exact List.mem_map.2 ⟨y, hy, rfl⟩
            rcases put_paths hPO h0 hpg h1 with h2 | ⟨n, h2⟩
            · rw [← hk, paths_keys] at h2
              obtain ⟨t, ht2, e2⟩ := List.mem_map.1 h2
              rw [← e2]; exact ⟨(hfa t ht2).1, (hfa t ht2).2.1⟩
            · rw [h2]
              refine ⟨fun p hp => filter_fine hf p (List.mem_of_mem_take hp), Nat.le_trans (jl_take_le _ _) ?_⟩
              rw [jl_pth]; have := HFS.out; simpa using this
          refine ⟨by rw [p1, ← hwk.2], ?_⟩
          rw [← hz2]
          exact with_end (B := w.heap.size) p3 p2 hz (hz1.trans hx0) (Nat.le_trans hb1.size (Nat.le_trans hb.size p4.size)) (fun y hy => (hpf y hy).1) (fun y hy => by have := (hpf y hy).2; omega) hTl' hkk ((hb1.trans (hb.mono hb1.size)).trans p4) rfl)
        have HFF := Lib.hid HFS.out
        have HMM := Lib.hid HM1.out
        clear hf hPO h0 hTl hfa hx0 hT hN hk ht hb1 hid hwk hpe hpg hpne hpl hx
        go_wp2_with fail
        refine CF.out.mono ?_
        rintro e w2 ⟨rfl, hb2⟩
        have CP := Lib.hid (implParts_any f m w2 HFF.out ((hb2.cell (World.block_lt_of_cell? _ _ HMM.out)).trans HMM.out))
        have HB2 := Lib.hid hb2
        clear CF hb2
        go_wp2_with fail
        refine (CI.out _).mono ?_
        rintro e w2 ⟨rfl, rfl⟩
        go_wp2_with fail
        refine CP.out.mono ?_
        rintro e w3 ⟨pv, rfl, h1, h2⟩
        have HB3 := Lib.hid (below_end HB2.out h2)
        have hpa := HPUT.out w3 pv HB3.out (texts_row h1)
        obtain ⟨pa, pc, hpv⟩ := own_slice h1
        subst hpv
        have CPU := Lib.hid hpa
        clear h1 h2 hpa CP
        go_wp2_with fail
        refine CPU.out.mono ?_
        rintro e w4 hp4
        obtain ⟨rfl, hkn⟩ := HKN.out w3 w4 e HB3.out hp4
        have HEND := Lib.hid hkn
        clear hp4 hkn CPU HKN HPUT
        go_wp2_with fail
        refine HEND.out.mono ?_
        rintro e w9 ⟨u, rfl, h8, h9⟩
        have H8 := Lib.hid h8
        have H9 := Lib.hid h9
        clear h8 h9 HEND
        go_wp2
        go_ret2
        exact ⟨_, rfl, H8.out, H9.out⟩

end Go.Proofs.YtndkfmffmkgijaaDoor
