/- Small texts, laid together. -/
import Derived.Test.YtcpoodhbakkmcaaGreatDoorZTrieW
import Derived.Test.YtcpoodhbakkmcaaGreatDoorZB7
import Derived.Test.YtcpoodhbakkmcaaGreatDoorZIKnots
import Derived.Test.YtcpoodhbakkmcaaGreatDoorZILinked
import Derived.Test.YtcpoodhbakkmcaaGreatDoorZB2
import Derived.Test.YtcpoodhbakkmcaaGreatDoorZIPut
import Derived.Test.YtcpoodhbakkmcaaGreatDoorZITake2
import Derived.Test.YtcpoodhbakkmcaaGreatDoorZB4
import Derived.Test.YtcpoodhbakkmcaaGreatDoorZB6
import Derived.Test.YtcpoodhbakkmcaaGreatDoorZSTrie2
import Derived.Test.YtcpoodhbakkmcaaGreatDoorZSTrie4
import Derived.Deep.RegionHeld
set_option linter.unusedSimpArgs false
set_option linter.unusedVariables false
/- What WithId and WithoutId of the program share. -/
namespace Go.Proofs.YtcpoodhbakkmcaaGreatDoor
open Go.RowKit

theorem jl_take_le (P : PathM) (n : Nat) : (jl (P.take n)).length ≤ (jl P).length := by
  by_cases h : P.drop n = []
  · have := List.take_append_drop n P
    rw [h, List.append_nil] at this
    rw [this]; exact Nat.le_refl _
  · by_cases h2 : P.take n = []
    · rw [h2]; exact Nat.zero_le _
    · have := jl_append (P.take n) (P.drop n) h2 h
      rw [List.take_append_drop] at this
      rw [this]; simp

/-- What the tree of a right trie is like. -/
theorem linked_facts {l : List KnotM} {T : List NodeM} (ht : trieB l = true) (hl : KSmall l) (hk : T.map keyOf = l.map keyK) : ∀ y ∈ T, Fine y.path ∧ (jl y.path).length ≤ 1048576 ∧ rises y.ids = true := by
  intro y hy
  obtain ⟨x, hx, e1, e2⟩ := key_mem' hk hy
  have hsz : (jl y.path).length ≤ 1048576 := by rw [e1, jl_pth]; have := (hl.2 x hx).1; simpa using this
  obtain ⟨j, hj, rfl⟩ := List.mem_iff_getElem.1 hx
  by_cases h1 : 1 ≤ j
  · have h := trie_at ht hj h1
    exact ⟨by rw [e1]; exact filter_fine h.2.1, hsz, by rw [e2]; exact h.2.2.1⟩
  · obtain rfl : j = 0 := by omega
    have h0 := trie_head ht
    cases l with
    | nil => simp at hj
    | cons a l =>
      rw [headOk, Bool.and_eq_true, beq_iff_eq, list_toList] at h0
      refine ⟨?_, hsz, ?_⟩
      · rw [e1]
        have : pth (a :: l)[0].1 = [] := by show pth a.1 = []; unfold pth; rw [if_pos h0.1]
        rw [this]; intro p hp; cases hp
      · rw [e2]
        have h2 := h0.2
        have : a.2 = [] := by cases e : a.2 with | nil => rfl | cons => rw [e] at h2; simp at h2
        show rises a.2 = true
        rw [this]; rfl

theorem put_paths {id : Int} {K : List KeyM} {P Q : PathM} (hK : PathsOk (paths K)) (h0 : ([] : PathM) ∈ paths K) (hP : Good P) (h : Q ∈ paths (putKeys id K [] P).1) : Q ∈ paths K ∨ ∃ n, Q = P.take n := by
  rw [put_root id hK h0 hP] at h
  split at h
  · exact .inl h
  · dsimp only at h
    rw [addAt_paths, mem_paths] at h
    obtain ⟨a, ha, rfl⟩ := h
    rcases ((preKeys_spec P K [] hK h0 hP).2 a).1 ha with h | ⟨_, _, n, _, _, h⟩
    · exact .inl (mem_paths.2 ⟨a, h, rfl⟩)
    · exact .inr ⟨n, by simpa using h⟩

theorem putsN_len : ∀ (n : Nat) (l : List KnotM) (p : ByteArray), (putsN n l p).length ≤ l.length + n
  | 0, _, _ => Nat.le_refl _
  | n + 1, l, p => by
    rw [putsN]; split
    · omega
    · have := putsN_len n (put1 l p) (above p)
      have := (put1_length l p).1
      omega

theorem withL_len (l : List KnotM) (f : ByteArray) (id : Int) : (withL l f id).1.length ≤ l.length + f.size := by
  unfold withL
  split
  · split
    · dsimp only; omega
    · dsimp only; unfold setIds; rw [List.length_set]; exact putsN_len _ _ _
  · simp

theorem texts_row {w : World} {B : Nat} {v : Value} {l : List ByteArray} (h : w.ownsRow B 9 1 v l.length (texts l)) : TextsRow w v l := by
  rcases h.2 with ⟨rfl, h0⟩ | ⟨g, cap, cur, rfl, _, hh, hc, _, _, ht⟩
  · exact ⟨none, 0, by rw [h0], by omega, .inl (List.length_eq_zero_iff.1 h0)⟩
  · refine ⟨_, cap, rfl, hc, .inr ⟨g, 0, cur, (0, 0), rfl, hh, fun j hj => ?_⟩⟩
    rw [Nat.zero_add, ← Array.getElem?_toList]
    have h2 : (cur.toList.take (l.length * 1))[j]? = cur.toList[j]? := by rw [List.getElem?_take_of_lt (by omega)]
    rw [← h2, ht]; simp [texts, hj]

theorem knots_keys {T : List NodeM} {l : List KnotM} (h : T.map keyOf = l.map keyK) : knotsOf T = l := by
  have e : ∀ T : List NodeM, knotsOf T = (T.map keyOf).map (fun a => (bts (jl a.1), a.2)) := fun T => by unfold knotsOf; rw [List.map_map]; rfl
  rw [e, h, List.map_map]
  conv => rhs; rw [← List.map_id l]
  apply List.map_congr_left
  intro x _
  show (bts (jl (pth x.1)), x.2) = x
  rw [jl_pth, bts_of]

/-- What WithId's end leaves. -/
theorem with_end {l : List KnotM} {T : List NodeM} {x : NodeM} {w w1 : World} {B : Nat} (hN : Nodes w1 B T) (hT : TreeOk T) (hx : x ∈ T) (hx0 : x.path = []) (hB : B ≤ w1.heap.size) (hF : ∀ y ∈ T, Fine y.path) (hS : ∀ y ∈ T, (jl y.path).length ≤ 2097152) (hl : T.length ≤ 4000000)
    (hk : T.map keyOf = l.map keyK) (hb : Below B w w1) (hBw : B = w.heap.size) :
    Calls Tryz.prog 23 #[.pointer (some ⟨x.ptr, 0, none⟩)] w1 fun e w' => ∃ u, e = .returned u ∧ KOwn w' w.heap.size u l ∧ Below w.heap.size w w' := by
  refine (knotsOf_any T x w1 B hN hT hx hx0 hB hF hS hl).mono ?_
  rintro e w' ⟨u, h1, h2, h3⟩
  subst hBw
  rw [knots_keys hk] at h2
  exact ⟨u, h1, ⟨_, h2⟩, hb.trans (h3.mono hb.size)⟩

end Go.Proofs.YtcpoodhbakkmcaaGreatDoor

/- The walk of impl.WithId. -/
namespace Go.Proofs.YtcpoodhbakkmcaaGreatDoor
open Go.RowKit


set_option maxRecDepth 100000 in
set_option maxHeartbeats 3200000 in
theorem implWith_any (v : Value) (l : List KnotM) (f : ByteArray) (id : Int) (m : Int) (w : World) (hl : KSmall l) (hfs : f.size ≤ 1048576) (hv : KnotsAt w v l) (hm : w.cell? ⟨0, 0, none⟩ = some (.int .i64 m)) :
    Calls Tryz.prog 8 #[v, .string f, .int .i64 id] w fun e w' => ∃ u, e = .returned (.tuple #[u, .bool (withL l f id).2]) ∧ KOwn w' w.heap.size u (withL l f id).1 ∧ Below w.heap.size w w' := by
  have CL := Lib.hid (linked_any v l m w hl hv hm)
  have HKS := Lib.hid hl
  have HM := Lib.hid hm
  have HFS := Lib.hid hfs
  obtain ⟨a, c, rfl, _, _, _⟩ := hv
  clear hm hl hfs
  obtain ⟨wl, hwl⟩ : ∃ wl, withL l f id = wl := ⟨_, rfl⟩
  rw [hwl]
  have HWL := Lib.hid hwl
  clear hwl
  obtain ⟨wl1, wl2⟩ := wl
  go_enter Tryz.func8, Tryz.ntmps8
  go_wp2_with fail
  refine CL.out.mono ?_
  rintro e w1 ⟨hL, hb1⟩
  have HB1 := Lib.hid hb1
  clear CL
  rcases hL with ⟨ht, rfl⟩ | ⟨ht, T, x, rfl, hx, hx0, hT, hN, hk⟩
  · have HE : Hid (wl1 = [] ∧ wl2 = false) := Lib.hid (by have := HWL.out; unfold withL at this; rw [ht] at this; cases this; exact ⟨rfl, rfl⟩)
    clear ht hb1
    obtain ⟨rfl, rfl⟩ := HE.out
    go_wp2
    go_ret2
    exact ⟨_, rfl, ⟨[], rfl, World.ownsRow_nil _ _ _ _, fun j h => absurd h (Nat.not_lt_zero _), List.pairwise_singleton _ _⟩, HB1.out⟩
  · have hfa := linked_facts ht HKS.out hk
    have HM1 := Lib.hid ((hb1.cell (World.block_lt_of_cell? _ _ HM.out)).trans HM.out)
    have CF := Lib.hid (implFilter_any f m w1 HFS.out HM1.out)
    have hPO : PathsOk (paths (l.map keyK)) := by rw [← hk]; exact tree_paths hT
    have h0 : ([] : PathM) ∈ paths (l.map keyK) := by rw [← hk, paths_keys]; exact List.mem_map.2 ⟨x, hx, hx0⟩
    have hTl : T.length ≤ 1048576 := by have := congrArg List.length hk; simp at this; have := HKS.out.1; omega
    cases hf : filterP (parts f 47)
    · rw [hf] at CF
      have HE : Hid (wl1 = l ∧ wl2 = false) := Lib.hid (by have := HWL.out; unfold withL at this; rw [if_pos ht, bad_id hPO, hf] at this; cases this; exact ⟨rfl, rfl⟩)
      have HKN := Lib.hid (fun (w3 : World) (hb : Below w1.heap.size w1 w3) => with_end (l := l) (B := w.heap.size) (w := w) (w1 := w3) (hN.below hb) hT hx hx0 (Nat.le_trans hb1.size hb.size) (fun y hy => (hfa y hy).1) (fun y hy => by have := (hfa y hy).2.1; omega) (by omega) hk (hb1.trans (hb.mono hb1.size)) rfl)
      clear hf hPO h0 hTl hfa hx hx0 hT hN hk ht hb1
      obtain ⟨rfl, rfl⟩ := HE.out
      go_wp2_with fail
      refine CF.out.mono ?_
      rintro e w2 ⟨rfl, hb2⟩
      have HEND := Lib.hid (HKN.out w2 hb2)
      clear CF hb2 HKN
      go_wp2_with fail
      refine HEND.out.mono ?_
      rintro e w9 ⟨u, rfl, h8, h9⟩
      have H8 := Lib.hid h8
      have H9 := Lib.hid h9
      clear h8 h9 HEND
      go_wp2
      go_ret2
      exact ⟨_, rfl, H8.out, H9.out⟩
    · rw [hf] at CF
      cases hid : idOk id
      · have HE : Hid (wl1 = l ∧ wl2 = false) := Lib.hid (by have := HWL.out; unfold withL at this; rw [if_pos ht, bad_id hPO, hf, hid] at this; cases this; exact ⟨rfl, rfl⟩)
        have HKN := Lib.hid (fun (w3 : World) (hb : Below w1.heap.size w1 w3) => with_end (l := l) (B := w.heap.size) (w := w) (w1 := w3) (hN.below hb) hT hx hx0 (Nat.le_trans hb1.size hb.size) (fun y hy => (hfa y hy).1) (fun y hy => by have := (hfa y hy).2.1; omega) (by omega) hk (hb1.trans (hb.mono hb1.size)) rfl)
        have CI := Lib.hid (fun wx => implId_any id wx)
        rw [hid] at CI
        clear hf hPO h0 hTl hfa hx hx0 hT hN hk ht hb1 hid
        obtain ⟨rfl, rfl⟩ := HE.out
        go_wp2_with fail
        refine CF.out.mono ?_
        rintro e w2 ⟨rfl, hb2⟩
        have HEND := Lib.hid (HKN.out w2 hb2)
        clear CF hb2 HKN
        go_wp2_with fail
        refine (CI.out _).mono ?_
        rintro e w2 ⟨rfl, rfl⟩
        go_wp2_with fail
        refine HEND.out.mono ?_
        rintro e w9 ⟨u, rfl, h8, h9⟩
        have H8 := Lib.hid h8
        have H9 := Lib.hid h9
        clear h8 h9 HEND
        go_wp2
        go_ret2
        exact ⟨_, rfl, H8.out, H9.out⟩
      · have CI := Lib.hid (fun wx => implId_any id wx)
        rw [hid] at CI
        obtain ⟨hpe, hpg, hpne⟩ := filter_good hf
        have hwk := with_keys ht hPO h0 hf hid
        rw [HWL.out] at hwk
        have HWK := Lib.hid hwk
        have hpl := parts_le f 47
        have HPUT := Lib.hid (fun (w3 : World) (pv : Value) (hb : Below w1.heap.size w1 w3) (hr : TextsRow w3 pv (parts f 47)) => put_any id w.heap.size (parts f 47) T x w3 pv hx hT (hN.below hb) (Nat.le_trans hb1.size hb.size) hr (by rw [hx0, List.nil_append]; show Good (lists (parts f 47)); unfold lists; rw [← hpe]; exact hpg) (fun y hy => (hfa y hy).2.2) (by have := HFS.out; omega))
        have HKN := Lib.hid (fun (w3 w4 : World) (e : Ending) (hb : Below w1.heap.size w1 w3) (hp : PutAt id w3 w.heap.size T x.path (parts f 47) e w4) => show e = .returned (.bool wl2) ∧ Calls Tryz.prog 23 #[.pointer (some ⟨x.ptr, 0, none⟩)] w4 fun e w' => ∃ u, e = .returned u ∧ KOwn w' w.heap.size u wl1 ∧ Below w.heap.size w w' by
          obtain ⟨p1, T', p2, p3, p4, p5, p6, p7⟩ := hp
          have hlp : lists (parts f 47) = pth f := hpe.symm
          rw [hx0, hlp, hk] at p1 p7
          obtain ⟨z, hz, hz1, hz2⟩ := p6 x hx
          have hkk : T'.map keyOf = wl1.map keyK := by rw [p7, hwk.1]
          have hTl' : T'.length ≤ 4000000 := by
            have e1 := congrArg List.length hkk
            have e2 := withL_len l f id
            rw [HWL.out] at e2
            simp only [List.length_map] at e1
            have := HKS.out.1; have := HFS.out
            dsimp only at e2
            omega
          have hpf : ∀ y ∈ T', Fine y.path ∧ (jl y.path).length ≤ 1048576 := fun y hy => by
            have h1 : y.path ∈ paths (putKeys id (l.map keyK) [] (pth f)).1 := by rw [← p7, paths_keys]; exact List.mem_map.2 ⟨y, hy, rfl⟩
            rcases put_paths hPO h0 hpg h1 with h2 | ⟨n, h2⟩
            · rw [← hk, paths_keys] at h2
              obtain ⟨t, ht2, e2⟩ := List.mem_map.1 h2
              rw [← e2]; exact ⟨(hfa t ht2).1, (hfa t ht2).2.1⟩
            · rw [h2]
              refine ⟨fun p hp => filter_fine hf p (List.mem_of_mem_take hp), Nat.le_trans (jl_take_le _ _) ?_⟩
              rw [jl_pth]; have := HFS.out; simpa using this
          refine ⟨by rw [p1, ← hwk.2], ?_⟩
          rw [← hz2]
          exact with_end (B := w.heap.size) p3 p2 hz (hz1.trans hx0) (Nat.le_trans hb1.size (Nat.le_trans hb.size p4.size)) (fun y hy => (hpf y hy).1) (fun y hy => by have := (hpf y hy).2; omega) hTl' hkk ((hb1.trans (hb.mono hb1.size)).trans p4) rfl)
        have HFF := Lib.hid HFS.out
        have HMM := Lib.hid HM1.out
        clear hf hPO h0 hTl hfa hx0 hT hN hk ht hb1 hid hwk hpe hpg hpne hpl hx
        go_wp2_with fail
        refine CF.out.mono ?_
        rintro e w2 ⟨rfl, hb2⟩
        have CP := Lib.hid (implParts_any f m w2 HFF.out ((hb2.cell (World.block_lt_of_cell? _ _ HMM.out)).trans HMM.out))
        have HB2 := Lib.hid hb2
        clear CF hb2
        go_wp2_with fail
        refine (CI.out _).mono ?_
        rintro e w2 ⟨rfl, rfl⟩
        go_wp2_with fail
        refine CP.out.mono ?_
        rintro e w3 ⟨pv, rfl, h1, h2⟩
        have HB3 := Lib.hid (below_end HB2.out h2)
        have hpa := HPUT.out w3 pv HB3.out (texts_row h1)
        obtain ⟨pa, pc, hpv⟩ := own_slice h1
        subst hpv
        have CPU := Lib.hid hpa
        clear h1 h2 hpa CP
        go_wp2_with fail
        refine CPU.out.mono ?_
        rintro e w4 hp4
        obtain ⟨rfl, hkn⟩ := HKN.out w3 w4 e HB3.out hp4
        have HEND := Lib.hid hkn
        clear hp4 hkn CPU HKN HPUT
        go_wp2_with fail
        refine HEND.out.mono ?_
        rintro e w9 ⟨u, rfl, h8, h9⟩
        have H8 := Lib.hid h8
        have H9 := Lib.hid h9
        clear h8 h9 HEND
        go_wp2
        go_ret2
        exact ⟨_, rfl, H8.out, H9.out⟩

end Go.Proofs.YtcpoodhbakkmcaaGreatDoor

/- WithoutId as mathematics. -/
namespace Go.Proofs.YtcpoodhbakkmcaaGreatDoor
open Go.RowKit

def dropK (l : List KnotM) (j : Nat) : List KnotM := l.take j ++ l.drop (j + 1)
def needK (l : List KnotM) (p : ByteArray) : Bool := decide (0 < (l.getD (find l p).toNat knotZ).2.length) || childB l p
/-- The nodes that nothing needs, from p up, taken out (at most n). -/
def pruneL : Nat → List KnotM → ByteArray → List KnotM
  | 0, l, _ => l
  | n + 1, l, p => if p.toList = [] then l else if needK l p then l else pruneL n (dropK l (find l p).toNat) (above p)
def badW (l : List KnotM) (f : ByteArray) (id : Int) : Bool := decide (find l f < 0) || !(hasId (l.getD (find l f).toNat knotZ).2 id)
def remI (l : List Int) (id : Int) : List Int := l.filter fun y => decide (y ≠ id)
def remK (l : List KnotM) (k : Nat) (id : Int) : List KnotM := l.set k ((l.getD k knotZ).1, remI (l.getD k knotZ).2 id)
def withoutL (l : List KnotM) (f : ByteArray) (id : Int) : List KnotM × Bool :=
  if trieB l then (if badW l f id then (l, false) else (pruneL f.size (remK l (find l f).toNat id) f, true)) else ([], false)

theorem name_eq {a p : ByteArray} (h : a.toList = p.toList) : a = p := by
  rw [list_toList, list_toList] at h
  have := Array.toList_inj.1 h
  cases a; cases p; congr

theorem drop_keys {l : List KnotM} {j : Nat} {p : ByteArray} (hs : (l.map keyK).Pairwise fun a b => before a.1 b.1 = true) (hj : j < l.length) (e : l[j].1 = p) : (dropK l j).map keyK = cutAt (l.map keyK) (pth p) := by
  have hsplit : l = l.take j ++ l[j] :: l.drop (j + 1) := by rw [← List.drop_eq_getElem_cons hj, List.take_append_drop]
  have hpw := hs
  rw [hsplit, List.map_append, List.map_cons, List.pairwise_append, List.pairwise_cons] at hpw
  have hk : (keyK l[j]).1 = pth p := by show pth l[j].1 = _; rw [e]
  unfold dropK cutAt
  conv => rhs; rw [hsplit]
  rw [List.map_append, List.map_append, List.map_cons, List.filter_append, List.filter_cons_of_neg (by rw [hk]; simp)]
  congr 1
  · rw [eq_comm, List.filter_eq_self]
    intro a ha
    have := hpw.2.2 a ha (keyK l[j]) (List.mem_cons_self ..)
    rw [hk] at this
    rw [decide_eq_true_iff]; intro e2; rw [e2, before_irrefl] at this; cases this
  · rw [eq_comm, List.filter_eq_self]
    intro a ha
    have := hpw.2.1.1 a ha
    rw [hk] at this
    rw [decide_eq_true_iff]; intro e2; rw [e2, before_irrefl] at this; cases this

theorem less_nil_of : ∀ b : List UInt8, less b [] = false
  | [] => less_irrefl _
  | _ :: _ => rfl

theorem head_root {l : List KnotM} (hPO : PathsOk (paths (l.map keyK))) (h0 : ([] : PathM) ∈ paths (l.map keyK)) : ∃ a L, l = a :: L ∧ pth a.1 = [] ∧ ∀ x ∈ L, pth x.1 ≠ [] := by
  cases l with
  | nil => cases h0
  | cons a L =>
    have hr := rising_of hPO
    rw [List.map_cons, List.pairwise_cons] at hr
    have ha : pth a.1 = [] := by
      obtain ⟨b, hb, e⟩ := mem_paths.1 h0
      rcases List.mem_cons.1 hb with h | h
      · rw [h] at e; exact e
      · have h1 := hr.1 b h
        rw [e] at h1
        have h2 : before (keyK a).1 [] = false := less_nil_of _
        rw [h2] at h1; cases h1
    refine ⟨a, L, rfl, ha, fun x hx e => ?_⟩
    have h1 := hr.1 (keyK x) (List.mem_map_of_mem hx)
    rw [show (keyK a).1 = [] from ha, show (keyK x).1 = [] from e, before_irrefl] at h1; cases h1

theorem child_keys {l : List KnotM} (hPO : PathsOk (paths (l.map keyK))) (h0 : ([] : PathM) ∈ paths (l.map keyK)) (p : ByteArray) : childB l p = hasKid (l.map keyK) (pth p) := by
  obtain ⟨a, L, rfl, ha, hL⟩ := head_root hPO h0
  unfold childB hasKid
  rw [List.drop_succ_cons, List.drop_zero, List.map_cons, List.any_cons, List.any_map]
  have h1 : (decide ((keyK a).1 ≠ []) && decide ((keyK a).1.dropLast = pth p)) = false := by rw [show (keyK a).1 = [] from ha]; simp
  rw [h1, Bool.false_or]
  have e : ∀ x ∈ L, ((above x.1).toList == p.toList) = ((fun a : KeyM => decide (a.1 ≠ []) && decide (a.1.dropLast = pth p)) ∘ keyK) x := fun x hx => by
    have hg : Good (pth x.1) := hPO.good _ (mem_paths.2 ⟨keyK x, List.mem_map_of_mem (List.mem_cons_of_mem _ hx), rfl⟩)
    have hp := pth_above hg (hL x hx)
    simp only [Function.comp]
    show _ = (decide (pth x.1 ≠ []) && decide ((pth x.1).dropLast = pth p))
    rw [decide_eq_true (hL x hx), Bool.true_and, ← hp, Bool.eq_iff_iff, beq_iff_eq, decide_eq_true_iff]
    constructor
    · intro h; rw [name_eq h]
    · intro h; rw [pth_same h]
  rw [Bool.eq_iff_iff, List.any_eq_true, List.any_eq_true]
  constructor
  · rintro ⟨x, hx, h⟩; exact ⟨x, hx, by rw [← e x hx]; exact h⟩
  · rintro ⟨x, hx, h⟩; exact ⟨x, hx, by rw [e x hx]; exact h⟩

theorem root_in {K : List KeyM} (hK : PathsOk (paths K)) {P : PathM} (h : P ∈ paths K) : ([] : PathM) ∈ paths K := by
  have := front_in hK h P.length 0 (by omega)
  simpa using this

theorem need_keys {l : List KnotM} {p : ByteArray} (hPO : PathsOk (paths (l.map keyK))) (hp : pth p ∈ paths (l.map keyK)) : needK l p = !(emptyAt (l.map keyK) (pth p)) := by
  have h0 := root_in hPO hp
  have hi := ids_at hPO p
  rw [if_pos (find_paths.2 hp)] at hi
  unfold needK emptyAt
  rw [hi, child_keys hPO h0, Bool.not_and, Bool.not_not]
  congr 1
  cases idsAt (l.map keyK) (pth p) <;> simp

theorem prune_keys : ∀ (n : Nat) (l : List KnotM) (p : ByteArray), PathsOk (paths (l.map keyK)) → pth p ∈ paths (l.map keyK) → (pruneL n l p).map keyK = pruneK n (l.map keyK) (pth p)
  | 0, _, _, _, _ => rfl
  | n + 1, l, p, hPO, hp => by
    rw [pruneL, pruneK]
    by_cases h0 : pth p = []
    · rw [if_pos (pth_nil.1 h0), if_pos h0]
    · rw [if_neg (fun e => h0 (pth_nil.2 e)), if_neg h0, need_keys hPO hp]
      cases he : emptyAt (l.map keyK) (pth p)
      · rw [if_pos (by simp), if_neg (by simp)]
      · rw [if_neg (by simp), if_pos rfl]
        obtain ⟨j, hj, e, e2⟩ := find_pos (find_paths.2 hp)
        have hdk : (dropK l (find l p).toNat).map keyK = cutAt (l.map keyK) (pth p) := by rw [e, Int.toNat_natCast]; exact drop_keys (rising_of hPO) hj (name_eq e2)
        have hab := pth_above (hPO.good _ hp) h0
        rw [prune_keys n _ (above p) (by rw [hdk]; exact cut_ok hPO he) (by
          rw [hdk, hab, cut_paths]
          exact ⟨hPO.closed _ hp h0, fun e => by have := congrArg List.length e; rw [List.length_dropLast] at this; have := List.length_pos_iff.2 h0; omega⟩), hdk, hab]

theorem prune_more : ∀ (n : Nat) (K : List KeyM) (P : PathM), P.length ≤ n → pruneK n K P = pruneK P.length K P
  | 0, K, P, h => by rw [show P = [] from List.length_eq_zero_iff.1 (by omega)]; rfl
  | n + 1, K, P, h => by
    by_cases h0 : P = []
    · subst h0; rw [prune_nil, prune_nil]
    · obtain ⟨m, hm⟩ : ∃ m, P.length = m + 1 := ⟨P.length - 1, by have := List.length_pos_iff.2 h0; omega⟩
      rw [hm, pruneK, pruneK, if_neg h0, if_neg h0]
      have hd : P.dropLast.length = m := by rw [List.length_dropLast]; omega
      rw [prune_more n _ P.dropLast (by omega), hd]

theorem bad_w {l : List KnotM} (hPO : PathsOk (paths (l.map keyK))) (f : ByteArray) (id : Int) : badW l f id = !(hasId (idsAt (l.map keyK) (pth f)) id) := by
  unfold badW
  rw [← ids_at hPO]
  by_cases h : 0 ≤ find l f
  · rw [if_pos h, decide_eq_false (by omega)]; rfl
  · rw [if_neg h, decide_eq_true (by omega)]; rfl

/-- 'WithoutId' of the reference is what the program's take makes. -/
theorem without_keys {l : List KnotM} {f : ByteArray} {id : Int} (ht : trieB l = true) (hPO : PathsOk (paths (l.map keyK))) (h0 : ([] : PathM) ∈ paths (l.map keyK)) :
    (withoutL l f id).1.map keyK = (takeKeys id (l.map keyK) [] (pth f)).1 ∧ (withoutL l f id).2 = (takeKeys id (l.map keyK) [] (pth f)).2 := by
  rw [take_root id hPO h0]
  unfold withoutL
  rw [if_pos ht, bad_w hPO]
  by_cases hh : hasId (idsAt (l.map keyK) (pth f)) id = true
  · rw [if_neg (by rw [hh]; simp), if_pos hh]
    refine ⟨?_, rfl⟩
    have hin : pth f ∈ paths (l.map keyK) := by
      refine Classical.byContradiction fun hn => ?_
      rw [idsAt_none hn] at hh; simp [hasId] at hh
    obtain ⟨j, hj, e, e2⟩ := find_pos (find_paths.2 hin)
    have e3 : l.getD j knotZ = l[j] := by rw [List.getD_eq_getElem?_getD, List.getElem?_eq_getElem hj]; rfl
    have hrk : (remK l (find l f).toNat id).map keyK = remAt (l.map keyK) (pth f) id := by
      unfold remK
      rw [e, Int.toNat_natCast, e3]
      exact set_keys (fun I => remI I id) hj (rising_of hPO) e2 rfl
    have hgf := hPO.good _ hin
    have hn : (pth f).length ≤ f.size := by
      have := good_len hgf
      rw [jl_pth] at this
      simpa using this
    show (pruneL f.size (remK l (find l f).toNat id) f).map keyK = _
    rw [prune_keys f.size _ f (by rw [hrk, remAt_paths]; exact hPO) (by rw [hrk, remAt_paths]; exact hin), hrk, prune_more _ _ _ hn]
  · rw [if_pos (by rw [Bool.not_eq_true] at hh; rw [hh]; rfl), if_neg hh]
    exact ⟨rfl, rfl⟩

end Go.Proofs.YtcpoodhbakkmcaaGreatDoor

/- The walk of impl.WithoutId. -/
namespace Go.Proofs.YtcpoodhbakkmcaaGreatDoor
open Go.RowKit

/-- The parts of a filter, from the root: as its path. -/
theorem take_lists {l : List KnotM} {f : ByteArray} {id : Int} (ht : trieB l = true) (hPO : PathsOk (paths (l.map keyK))) (h0 : ([] : PathM) ∈ paths (l.map keyK)) :
    takeKeys id (l.map keyK) [] (lists (parts f 47)) = takeKeys id (l.map keyK) [] (pth f) := by
  have e : lists (parts f 47) = cut 47 f.data.toList := parts_data f 47
  by_cases h : f.data.toList = []
  · have e1 : pth f = [] := by unfold pth; rw [if_pos h]
    rw [e, e1, h]
    show takeKeys id (l.map keyK) [] [[]] = _
    have hne : ([] : PathM) ++ [[]] ∉ paths (l.map keyK) := fun hn => (hPO.good _ hn [] (by simp)).1 rfl
    obtain ⟨a, L, rfl, ha, _⟩ := head_root hPO h0
    have hi : idsAt ((a :: L).map keyK) [] = [] := by
      have := idsAt_of hPO (List.mem_cons_self (a := keyK a) (l := L.map keyK))
      rw [show (keyK a).1 = [] from ha] at this
      rw [this]
      have h2 := trie_head ht
      rw [headOk, Bool.and_eq_true] at h2
      show a.2 = []
      have h3 := h2.2
      cases e : a.2 with
      | nil => rfl
      | cons => rw [e] at h3; simp at h3
    have l1 : takeKeys id ((a :: L).map keyK) [] [[]] = ((a :: L).map keyK, false) := by rw [takeKeys, if_neg hne]
    have l2 : takeKeys id ((a :: L).map keyK) [] [] = ((a :: L).map keyK, false) := by rw [takeKeys, hi]; rfl
    rw [l1, l2]
  · rw [e]; unfold pth; rw [if_neg h]

theorem totK_drop {l : List KnotM} {j : Nat} : totK (dropK l j) ≤ totK l ∧ (dropK l j).length ≤ l.length := by
  have := congrArg totK (List.take_append_drop j l)
  rw [totK_append] at this
  have h2 : totK (l.drop (j + 1)) ≤ totK (l.drop j) := by
    rcases Nat.lt_or_ge j l.length with h | h
    · rw [List.drop_eq_getElem_cons h]; simp only [totK, List.map_cons, List.sum_cons]; omega
    · rw [List.drop_of_length_le h, List.drop_of_length_le (by omega)]; exact Nat.le_refl _
  unfold dropK
  rw [totK_append]
  exact ⟨by omega, by simp; omega⟩

theorem pruneL_size : ∀ (n : Nat) (l : List KnotM) (p : ByteArray), totK (pruneL n l p) ≤ totK l ∧ (pruneL n l p).length ≤ l.length
  | 0, _, _ => ⟨Nat.le_refl _, Nat.le_refl _⟩
  | n + 1, l, p => by
    rw [pruneL]
    split
    · exact ⟨Nat.le_refl _, Nat.le_refl _⟩
    · split
      · exact ⟨Nat.le_refl _, Nat.le_refl _⟩
      · have h1 := pruneL_size n (dropK l (find l p).toNat) (above p)
        have h2 := totK_drop (l := l) (j := (find l p).toNat)
        exact ⟨by omega, by omega⟩

theorem withoutL_kend (l : List KnotM) (f : ByteArray) (id : Int) : kend (withoutL l f id).1 1 ≤ kend l 1 := by
  rw [kend_tot, kend_tot]
  unfold withoutL
  split
  · split
    · exact Nat.le_refl _
    · dsimp only
      have h1 := pruneL_size f.size (remK l (find l f).toNat id) f
      have h2 : totK (remK l (find l f).toNat id) ≤ totK l ∧ (remK l (find l f).toNat id).length = l.length := by
        unfold remK
        refine ⟨?_, by simp⟩
        by_cases hk : (find l f).toNat < l.length
        · have e : l.getD (find l f).toNat knotZ = l[(find l f).toNat] := by rw [List.getD_eq_getElem?_getD, List.getElem?_eq_getElem hk]; rfl
          have h3 := totK_setAt l _ hk (l[(find l f).toNat].1, remI l[(find l f).toNat].2 id)
          have h4 : (remI l[(find l f).toNat].2 id).length ≤ l[(find l f).toNat].2.length := List.length_filter_le _ _
          rw [e]
          dsimp only at h3
          omega
        · rw [List.set_eq_of_length_le (by omega)]; exact Nat.le_refl _
      omega
  · simp [totK]; omega


set_option maxRecDepth 100000 in
set_option maxHeartbeats 3200000 in
theorem implWithout_any (v : Value) (l : List KnotM) (f : ByteArray) (id : Int) (m : Int) (w : World) (hl : KSmall l) (hfs : f.size ≤ 1048576) (hv : KnotsAt w v l) (hm : w.cell? ⟨0, 0, none⟩ = some (.int .i64 m)) :
    Calls Tryz.prog 15 #[v, .string f, .int .i64 id] w fun e w' => ∃ u, e = .returned (.tuple #[u, .bool (withoutL l f id).2]) ∧ KOwn w' w.heap.size u (withoutL l f id).1 ∧ Below w.heap.size w w' := by
  have CL := Lib.hid (linked_any v l m w hl hv hm)
  have HKS := Lib.hid hl
  have HM := Lib.hid hm
  have HFS := Lib.hid hfs
  obtain ⟨a, c, rfl, _, _, _⟩ := hv
  clear hm hl hfs
  obtain ⟨wl, hwl⟩ : ∃ wl, withoutL l f id = wl := ⟨_, rfl⟩
  rw [hwl]
  have HWL := Lib.hid hwl
  clear hwl
  obtain ⟨wl1, wl2⟩ := wl
  go_enter Tryz.func15, Tryz.ntmps15
  go_wp2_with fail
  refine CL.out.mono ?_
  rintro e w1 ⟨hL, hb1⟩
  have HB1 := Lib.hid hb1
  clear CL
  rcases hL with ⟨ht, rfl⟩ | ⟨ht, T, x, rfl, hx, hx0, hT, hN, hk⟩
  · have HE : Hid (wl1 = [] ∧ wl2 = false) := Lib.hid (by have := HWL.out; unfold withoutL at this; rw [ht] at this; cases this; exact ⟨rfl, rfl⟩)
    clear ht hb1
    obtain ⟨rfl, rfl⟩ := HE.out
    go_wp2
    go_ret2
    exact ⟨_, rfl, ⟨[], rfl, World.ownsRow_nil _ _ _ _, fun j h => absurd h (Nat.not_lt_zero _), List.pairwise_singleton _ _⟩, HB1.out⟩
  · have hfa := linked_facts ht HKS.out hk
    have HM1 := Lib.hid ((hb1.cell (World.block_lt_of_cell? _ _ HM.out)).trans HM.out)
    have CP := Lib.hid (implParts_any f m w1 HFS.out HM1.out)
    have hPO : PathsOk (paths (l.map keyK)) := by rw [← hk]; exact tree_paths hT
    have h0 : ([] : PathM) ∈ paths (l.map keyK) := by rw [← hk, paths_keys]; exact List.mem_map.2 ⟨x, hx, hx0⟩
    have hTl : T.length ≤ 1048576 := by have := congrArg List.length hk; simp at this; have := HKS.out.1; omega
    have hwk := without_keys (f := f) (id := id) ht hPO h0
    rw [HWL.out] at hwk
    have HTK := Lib.hid (fun (w3 : World) (pv : Value) (hb : Below w1.heap.size w1 w3) (hr : TextsRow w3 pv (parts f 47)) => take_any id w.heap.size (parts f 47) T x w3 pv hx hT (hN.below hb) (Nat.le_trans hb1.size hb.size) hr (fun y hy => (hfa y hy).2.2) (by omega))
    have HKN := Lib.hid (fun (w3 w4 : World) (e : Ending) (hb : Below w1.heap.size w1 w3) (hp : TakeAt id w3 w.heap.size T x.path (parts f 47) e w4) => show e = .returned (.bool wl2) ∧ Calls Tryz.prog 23 #[.pointer (some ⟨x.ptr, 0, none⟩)] w4 fun e w' => ∃ u, e = .returned u ∧ KOwn w' w.heap.size u wl1 ∧ Below w.heap.size w w' by
      obtain ⟨p1, T', p2, p3, p4, p5, p7, p6⟩ := hp
      rw [hx0, hk, take_lists ht hPO h0] at p1 p7
      have hkk : T'.map keyOf = wl1.map keyK := by rw [p7, hwk.1]
      have hsub : ∀ y ∈ T', ∃ t ∈ T, t.path = y.path ∧ t.ptr = y.ptr := fun y hy => by
        have h1 : (y.path, y.ptr) ∈ pp T' := List.mem_map.2 ⟨y, hy, rfl⟩
        rw [p6] at h1
        obtain ⟨t, ht, e⟩ := List.mem_map.1 (List.mem_filter.1 h1).1
        exact ⟨t, ht, congrArg Prod.fst e, congrArg Prod.snd e⟩
      obtain ⟨z, hz, hz1, hz2⟩ : ∃ z ∈ T', z.path = [] ∧ z.ptr = x.ptr := by
        have h1 : (x.path, x.ptr) ∈ pp T' := by
          rw [p6, List.mem_filter]
          refine ⟨List.mem_map.2 ⟨x, hx, rfl⟩, ?_⟩
          rw [decide_eq_true_iff, p7]
          rw [hx0]
          exact take_keeps id _ _ [] [] h0 (fun h => h.2 rfl)
        obtain ⟨z, hz, e⟩ := List.mem_map.1 h1
        exact ⟨z, hz, (congrArg Prod.fst e).trans hx0, congrArg Prod.snd e⟩
      have hTl' : T'.length ≤ 4000000 := by
        have e1 := congrArg List.length p6
        have e2 : ((pp T).filter (fun a => decide (a.1 ∈ paths (T'.map keyOf)))).length ≤ (pp T).length := List.length_filter_le _ _
        simp only [pp, List.length_map] at e1 e2
        omega
      refine ⟨by rw [p1, ← hwk.2], ?_⟩
      rw [← hz2]
      exact with_end (B := w.heap.size) p3 p2 hz hz1 (Nat.le_trans hb1.size (Nat.le_trans hb.size p4.size)) (fun y hy => by obtain ⟨t, ht, e, _⟩ := hsub y hy; rw [← e]; exact (hfa t ht).1) (fun y hy => by obtain ⟨t, ht, e, _⟩ := hsub y hy; rw [← e]; have := (hfa t ht).2.1; omega) hTl' hkk ((hb1.trans (hb.mono hb1.size)).trans p4) rfl)
    clear hPO h0 hTl hfa hx0 hT hN hk ht hb1 hwk hx
    go_wp2_with fail
    refine CP.out.mono ?_
    rintro e w3 ⟨pv, rfl, h1, h2⟩
    have HB3 := Lib.hid h2
    have hpa := HTK.out w3 pv h2 (texts_row h1)
    obtain ⟨pa, pc, hpv⟩ := own_slice h1
    subst hpv
    have CPU := Lib.hid hpa
    clear h1 h2 hpa CP
    go_wp2_with fail
    refine CPU.out.mono ?_
    rintro e w4 hp4
    obtain ⟨rfl, hkn⟩ := HKN.out w3 w4 e HB3.out hp4
    have HEND := Lib.hid hkn
    clear hp4 hkn CPU HKN HTK
    go_wp2_with fail
    refine HEND.out.mono ?_
    rintro e w9 ⟨u, rfl, h8, h9⟩
    have H8 := Lib.hid h8
    have H9 := Lib.hid h9
    clear h8 h9 HEND
    go_wp2
    go_ret2
    exact ⟨_, rfl, H8.out, H9.out⟩

end Go.Proofs.YtcpoodhbakkmcaaGreatDoor

/- What a knot taken out leaves: the reference's side, ahead of its walk. -/
namespace Go.Proofs.YtcpoodhbakkmcaaGreatDoor
open Go.RowKit

/-- One knot taken out of the middle. -/
theorem KOwnU.erase {w w' : World} {B j : Nat} {v v' : Value} {l : List KnotM} {us : List Value} (h : KOwnU w B v l us) (hg : GrownL w w' [v]) (hj : j < l.length)
    (hr : w'.ownsRow B 43 2 v' (dropK l j).length (kcells (dropK l j) (us.take j ++ us.drop (j + 1)))) :
    KOwnU w' B v' (dropK l j) (us.take j ++ us.drop (j + 1)) := by
  have hne : 2 ≠ 43 := by decide
  have hlen := h.1
  have hnum : ∀ i (h1 : i < (dropK l j).length) (h2 : i < (us.take j ++ us.drop (j + 1)).length), w'.ownsRow B 2 1 (us.take j ++ us.drop (j + 1))[i] (dropK l j)[i].2.length (ints (dropK l j)[i].2) := fun i h1 h2 => by
    obtain ⟨t, ht, e1, e2⟩ : ∃ t, ∃ ht : t < l.length, (us.take j ++ us.drop (j + 1))[i] = us[t]'(by omega) ∧ (dropK l j)[i] = l[t] := by
      have hl2 : (dropK l j).length = l.length - 1 := by unfold dropK; simp; omega
      by_cases hi : i < j
      · refine ⟨i, by omega, ?_, ?_⟩
        · rw [List.getElem_append_left (by simp; omega), List.getElem_take]
        · have h1' : i < (l.take j ++ l.drop (j + 1)).length := h1
          show (l.take j ++ l.drop (j + 1))[i]'h1' = l[i]
          rw [List.getElem_append_left (by simp; omega), List.getElem_take]
      · refine ⟨i + 1, by omega, ?_, ?_⟩
        · rw [List.getElem_append_right (by simp; omega), List.getElem_drop]
          congr 1; simp; omega
        · have h1' : i < (l.take j ++ l.drop (j + 1)).length := h1
          show (l.take j ++ l.drop (j + 1))[i]'h1' = l[i + 1]
          rw [List.getElem_append_right (by simp; omega), List.getElem_drop]
          congr 1; simp; omega
    rw [e1, e2]
    have hy := h.2.2.1 t ht (by omega)
    exact own_keptL hy hg fun z hz => by rw [List.mem_singleton.1 hz]; exact apart_types hy h.2.1 hne
  refine ⟨by unfold dropK; simp [hlen], hr, hnum, ?_⟩
  rw [List.pairwise_cons]
  refine ⟨fun y hy => ?_, ?_⟩
  · obtain ⟨i, hi, rfl⟩ := List.mem_iff_getElem.1 hy
    have hi2 : i < (dropK l j).length := by unfold dropK; simp at hi ⊢; omega
    exact apart_types hr (hnum i hi2 hi) (Ne.symm hne)
  · have hp := (List.pairwise_cons.1 h.2.2.2).2
    rw [List.pairwise_append]
    refine ⟨List.Pairwise.sublist (List.take_sublist j us) hp, List.Pairwise.sublist (List.drop_sublist (j + 1) us) hp, fun y hy z hz => ?_⟩
    rw [← List.take_append_drop j us, List.pairwise_append] at hp
    refine hp.2.2 y hy z ?_
    rw [show us.drop (j + 1) = (us.drop j).drop 1 by rw [List.drop_drop]] at hz
    exact List.mem_of_mem_drop hz

/-- What the loop knows of its list and path. -/
def Kept (lk : List KnotM) (pk : ByteArray) : Prop := PathsOk (paths (lk.map keyK)) ∧ pth pk ∈ paths (lk.map keyK)

theorem Kept.here {lk : List KnotM} {pk : ByteArray} (h : Kept lk pk) : ∃ j, ∃ h : j < lk.length, find lk pk = (j : Int) ∧ lk[j].1 = pk := by
  obtain ⟨j, hj, e, e2⟩ := find_pos (find_paths.2 h.2)
  exact ⟨j, hj, e, name_eq e2⟩

theorem Kept.next {lk : List KnotM} {pk : ByteArray} {j : Nat} (h : Kept lk pk) (hp : pk.toList ≠ []) (hj : find lk pk = (j : Int)) (hn : needK lk pk = false) : Kept (dropK lk j) (above pk) ∧ (dropK lk j).length + 1 = lk.length ∧ 0 < (dropK lk j).length := by
  obtain ⟨i, hi, e, e2⟩ := h.here
  have hij : i = j := by rw [hj] at e; omega
  subst hij
  have hpn : pth pk ≠ [] := fun e => hp (pth_nil.1 e)
  have he : emptyAt (lk.map keyK) (pth pk) = true := by have := need_keys h.1 h.2; rw [hn] at this; cases e3 : emptyAt (lk.map keyK) (pth pk); rw [e3] at this; cases this; rfl
  have hk := drop_keys (rising_of h.1) hi e2
  have hin : (pth pk).dropLast ∈ paths (cutAt (lk.map keyK) (pth pk)) := (cut_paths _ _ _).2 ⟨h.1.closed _ h.2 hpn, fun e => by have := congrArg List.length e; rw [List.length_dropLast] at this; have := List.length_pos_iff.2 hpn; omega⟩
  have hl : (dropK lk i).length + 1 = lk.length := by unfold dropK; simp; omega
  refine ⟨⟨by rw [hk]; exact cut_ok h.1 he, by rw [hk, pth_above (h.1.good _ h.2) hpn]; exact hin⟩, hl, ?_⟩
  obtain ⟨a, ha, _⟩ := mem_paths.1 hin
  rw [← hk] at ha
  have := List.length_pos_of_mem ha
  simpa using this

theorem remI_next_no {L : List Int} {k : Nat} {id : Int} (hk : k < L.length) (h : L[k] = id) : remI (L.take (k + 1)) id = remI (L.take k) id := by
  unfold remI
  rw [List.take_succ_eq_append_getElem hk, List.filter_append, List.filter_cons_of_neg (by simp [h])]; simp
theorem remI_next {L : List Int} {k : Nat} {id : Int} (hk : k < L.length) (h : L[k] ≠ id) : remI (L.take (k + 1)) id = remI (L.take k) id ++ [L[k]] := by
  unfold remI
  rw [List.take_succ_eq_append_getElem hk, List.filter_append, List.filter_cons_of_pos (by simpa using h)]; simp
theorem remI_len (L : List Int) (id : Int) : (remI L id).length ≤ L.length := List.length_filter_le _ _

theorem int_src (w : World) (y : Int) : SrcAt (w.alloc (.cells #[.int .i64 y] 2)) (.slice (some ⟨w.heap.size, 0, none⟩) 1 1) 1 [.int .i64 y] :=
  ⟨_, _, rfl, .inr ⟨_, rfl, fun j v hv => by
    rw [Addr.add_lit, Nat.zero_add]
    exact (cell_of_heap (heap_alloc_new w _) j).trans (by rw [← hv]; simp)⟩⟩

def KFit (l : List KnotM) : Prop := ∀ x ∈ l, x.1.size ≤ 1048576 ∧ x.2.length ≤ 1048576

theorem KFit.drop {l : List KnotM} {j : Nat} (h : KFit l) : KFit (dropK l j) := fun x hx => by
  unfold dropK at hx
  rcases List.mem_append.1 hx with h1 | h1
  · exact h x (List.mem_of_mem_take h1)
  · exact h x (List.mem_of_mem_drop h1)

end Go.Proofs.YtcpoodhbakkmcaaGreatDoor

/- The paths of a right trie. -/
namespace Go.Proofs.YtcpoodhbakkmcaaGreatDoor
open Go.RowKit

theorem trie_paths {l : List KnotM} (h : trieB l = true) : PathsOk (paths (l.map keyK)) := by
  have h0 : ∀ (hl : 0 < l.length), pth (l[0]'hl).1 = [] := fun hl => by
    have hh := trie_head h
    cases l with
    | nil => simp at hl
    | cons a l =>
      rw [headOk, Bool.and_eq_true, beq_iff_eq] at hh
      exact pth_nil.2 hh.1
  refine ⟨fun P hP hne => ?_, fun P hP => ?_, ?_⟩
  · obtain ⟨a, ha, rfl⟩ := mem_paths.1 hP
    obtain ⟨k, hk, rfl⟩ := List.mem_map.1 ha
    obtain ⟨j, hj, rfl⟩ := List.mem_iff_getElem.1 hk
    by_cases h1 : 1 ≤ j
    · obtain ⟨_, hf, _, ⟨x, hx, e⟩, _⟩ := trie_at h hj h1
      obtain ⟨_, hg, hne2⟩ := filter_good hf
      exact mem_paths.2 ⟨keyK x, List.mem_map_of_mem hx, by show pth x.1 = (pth l[j].1).dropLast; rw [name_eq e, pth_above hg hne2]⟩
    · obtain rfl : j = 0 := by omega
      exact absurd (h0 hj) hne
  · obtain ⟨a, ha, rfl⟩ := mem_paths.1 hP
    obtain ⟨k, hk, rfl⟩ := List.mem_map.1 ha
    obtain ⟨j, hj, rfl⟩ := List.mem_iff_getElem.1 hk
    by_cases h1 : 1 ≤ j
    · exact (filter_good (trie_at h hj h1).2.1).2.1
    · obtain rfl : j = 0 := by omega
      show Good (pth l[0].1)
      rw [h0 hj]; intro p hp; cases hp
  · refine List.pairwise_map.2 (List.pairwise_map.2 (List.pairwise_iff_getElem.2 fun i j hi hj hij => ?_))
    have := trie_lt h (j - i - 1) i (by omega)
    have e : i + (j - i - 1) + 1 = j := by omega
    simp only [e] at this
    show before (pth l[i].1) (pth l[j].1) = true
    rw [before_pth]; exact this

end Go.Proofs.YtcpoodhbakkmcaaGreatDoor
