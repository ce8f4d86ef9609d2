/- The program's tree: the functions that only look, whole. -/
import Derived.Test.YtmfbffhbgelnnaaGreatDoorZB2
import Derived.Test.YtmfbffhbgelnnaaGreatDoorZB3
set_option linter.unusedSimpArgs false
set_option linter.unusedVariables false
namespace Go.Proofs.YtmfbffhbgelnnaaGreatDoor
open Go.RowKit

theorem found_at {K : List NodeM} {p : List UInt8} (h : found K p = true) : ∃ h : idx K p < K.length, K[idx K p].last = p := by
  unfold found at h
  split at h
  · rename_i y hy
    obtain ⟨h1, rfl⟩ := List.getElem?_eq_some_iff.1 hy
    exact ⟨h1, by simpa using h⟩
  · cases h

theorem found_mem {K : List NodeM} {y : NodeM} (hs : K.Pairwise fun x y => less x.last y.last = true) (hy : y ∈ K) : found K y.last = true := by
  obtain ⟨t, ht, rfl⟩ := List.mem_iff_getElem.1 hy
  have e : idx K K[t].last = t := lows_end (Nat.le_of_lt ht) ⟨fun u hu h => List.pairwise_iff_getElem.1 hs u t hu ht h, fun u hu h => by
    rcases Nat.lt_or_ge t u with h1 | h1
    · exact less_asymm (List.pairwise_iff_getElem.1 hs t u ht hu h1)
    · obtain rfl : u = t := by omega
      exact less_irrefl _⟩
  rw [found, e, List.getElem?_eq_getElem ht]; simp

theorem TreeOk.front {T : List NodeM} (h : TreeOk T) : ∀ (d n : Nat) (x : NodeM), x ∈ T → n + d = x.path.length → ∃ y ∈ T, y.path = x.path.take n
  | 0, n, x, hx, e => ⟨x, hx, by rw [List.take_of_length_le (by omega)]⟩
  | d + 1, n, x, hx, e => by
    obtain ⟨y, hy, ey⟩ := h.closed x hx (by intro h0; rw [h0] at e; simp at e)
    have hl : y.path.length = x.path.length - 1 := by rw [ey, List.length_dropLast]
    obtain ⟨z, hz, ez⟩ := h.front d n y hy (by omega)
    refine ⟨z, hz, ?_⟩
    rw [ez, ey, List.dropLast_eq_take, List.take_take, Nat.min_eq_left (by omega)]

theorem TreeOk.same {T : List NodeM} (h : TreeOk T) {x y : NodeM} (hx : x ∈ T) (hy : y ∈ T) (e : x.path = y.path) : x = y := by
  obtain ⟨i, hi, rfl⟩ := List.mem_iff_getElem.1 hx
  obtain ⟨j, hj, rfl⟩ := List.mem_iff_getElem.1 hy
  have hs := List.pairwise_iff_getElem.1 h.sorted
  rcases Nat.lt_trichotomy i j with h1 | h1 | h1
  · have := hs i j hi hj h1; rw [e, less_irrefl] at this; cases this
  · subst h1; rfl
  · have := hs j i hj hi h1; rw [e, less_irrefl] at this; cases this

/-- Where the node of a path is. -/
def ptrOf (T : List NodeM) (P : List (List UInt8)) : Option Addr := (T.find? fun y => decide (y.path = P)).map fun y => ⟨y.ptr, 0, none⟩

theorem TreeOk.ptr_at {T : List NodeM} (h : TreeOk T) {x : NodeM} (hx : x ∈ T) : ptrOf T x.path = some ⟨x.ptr, 0, none⟩ := by
  unfold ptrOf
  cases e : T.find? fun y => decide (y.path = x.path) with
  | none => have := List.find?_eq_none.1 e x hx; simp at this
  | some y =>
    have h1 := List.find?_some e
    have h2 := List.mem_of_find?_eq_some e
    rw [h.same h2 hx (by simpa using h1)]; rfl

theorem ptr_none {T : List NodeM} {P : List (List UInt8)} (h : ∀ x ∈ T, x.path ≠ P) : ptrOf T P = none := by
  unfold ptrOf
  rw [List.find?_eq_none.2 (fun x hx => by simpa using h x hx)]; rfl

theorem kids_le (T : List NodeM) (p : List (List UInt8)) : (kids T p).length ≤ T.length := List.length_filter_le _ _

set_option maxHeartbeats 400000 in
theorem kidIdx_any (T : List NodeM) (x : NodeM) (s : ByteArray) (w : World) (B : Nat) (hN : Nodes w B T) (hT : TreeOk T) (hx : x ∈ T) (hn : T.length ≤ 4000000) :
    Calls Tryz.prog 169 #[.pointer (some ⟨x.ptr, 0, none⟩), .string s] w fun e w' =>
      e = .returned (.tuple #[.int .i64 (idx (kids T x.path) s.data.toList : Nat), .bool (found (kids T x.path) s.data.toList)]) ∧ w = w' := by
  have hc := (hN.box x hx).2.kids
  have CS := Lib.hid (search_any (kids T x.path) x.kidsV s w B (Nat.le_trans (kids_le _ _) hn) (hN.kid x hx) (fun y hy => (hN.box y (kids_mem.1 hy).1).2.part) (hT.kids_rise _))
  obtain ⟨a, c, hv⟩ := own_slice (hN.kid x hx)
  obtain ⟨n, hn⟩ : ∃ n, idx (kids T x.path) s.data.toList = n := ⟨_, rfl⟩
  obtain ⟨f, hf⟩ : ∃ f, found (kids T x.path) s.data.toList = f := ⟨_, rfl⟩
  obtain ⟨m, hm⟩ : ∃ m, (kids T x.path).length = m := ⟨_, rfl⟩
  rw [hm] at hv
  rw [hn, hf, hv] at CS
  rw [hv] at hc
  rw [hn, hf]
  clear hn hf hv hm hN hT
  go_enter Tryz.func169, Tryz.ntmps169
  go_wp2_with fail
  refine CS.out.mono ?_
  rintro e w' ⟨rfl, rfl⟩
  go_wp2
  go_ret2
  exact ⟨rfl, rfl⟩

def emptyB (T : List NodeM) (x : NodeM) : Bool := x.ids.isEmpty && (kids T x.path).isEmpty

theorem empty_int {α : Type} (l : List α) : ((l.length : Int) == 0) = l.isEmpty := by cases l <;> simp; omega

set_option maxHeartbeats 400000 in
theorem isEmpty_any (T : List NodeM) (x : NodeM) (w : World) (B : Nat) (hN : Nodes w B T) (hx : x ∈ T) :
    Calls Tryz.prog 142 #[.pointer (some ⟨x.ptr, 0, none⟩)] w fun e w' => e = .returned (.bool (emptyB T x)) ∧ w = w' := by
  have hc := (hN.box x hx).2.kids
  have hi := (hN.box x hx).2.ids
  obtain ⟨a, c, hv⟩ := own_slice (hN.kid x hx)
  obtain ⟨a2, c2, hv2⟩ := own_slice (hN.ids x hx)
  rw [hv] at hc
  rw [hv2] at hi
  have h1 := empty_int x.ids
  have h2 := empty_int (kids T x.path)
  unfold emptyB
  obtain ⟨n, hn⟩ : ∃ n, (kids T x.path).length = n := ⟨_, rfl⟩
  obtain ⟨m, hm⟩ : ∃ m, x.ids.length = m := ⟨_, rfl⟩
  obtain ⟨f, hf⟩ : ∃ f, (kids T x.path).isEmpty = f := ⟨_, rfl⟩
  obtain ⟨g, hg⟩ : ∃ g, x.ids.isEmpty = g := ⟨_, rfl⟩
  rw [hn] at hc h2; rw [hm] at hi h1; rw [hf] at h2; rw [hg] at h1
  rw [hf, hg]
  clear hN hv hv2 hn hm hf hg
  cases g
  · go_enter Tryz.func142, Tryz.ntmps142
    go_wp2
    go_ret
    exact ⟨rfl, rfl⟩
  · go_enter Tryz.func142, Tryz.ntmps142
    go_wp2
    go_ret
    exact ⟨rfl, rfl⟩

theorem kid_cell {T : List NodeM} {x : NodeM} {w : World} {B k : Nat} (hN : Nodes w B T) (hx : x ∈ T) (hk : k < (kids T x.path).length) :
    ∃ g cap, x.kidsV = .slice (some ⟨g, 0, none⟩) (kids T x.path).length cap ∧ (∀ t (h : t < (kids T x.path).length), w.cell? ⟨g, t, none⟩ = some (.pointer (some ⟨(kids T x.path)[t].ptr, 0, none⟩))) := by
  have h := hN.kid x hx
  rcases h.2 with ⟨_, h0⟩ | ⟨g, cap, cur, hv, _⟩
  · omega
  · rw [hv] at h
    refine ⟨g, cap, hv, fun t ht => ?_⟩
    have := h.cellAt t (by omega)
    rw [this, ptrs, List.getElem?_map, List.getElem?_eq_getElem ht]; rfl

theorem take_data (l : List ByteArray) (k : Nat) (h : k < l.length) : (l.take (k + 1)).map (·.data.toList) = (l.take k).map (·.data.toList) ++ [l[k].data.toList] := by
  rw [List.take_succ_eq_append_getElem h, List.map_append]; rfl

set_option maxRecDepth 100000 in
set_option maxHeartbeats 1600000 in
theorem descend_any (T : List NodeM) (x : NodeM) (l : List ByteArray) (g n cap : Nat) (w : World) (B : Nat) (hN : Nodes w B T) (hT : TreeOk T) (hx : x ∈ T) (hn : T.length ≤ 4000000)
    (hln : n ≤ l.length) (hl : l.length ≤ 4000000) (hc : ∀ t (h : t < l.length), w.cell? ⟨g, t, none⟩ = some (.string l[t])) :
    Calls Tryz.prog 141 #[.pointer (some ⟨x.ptr, 0, none⟩), .slice (some ⟨g, 0, none⟩) n cap] w fun e w' =>
      e = .returned (.pointer (ptrOf T (x.path ++ (l.take n).map (·.data.toList)))) ∧ w = w' := by
  have HC := Lib.hid hc
  have HNN := Lib.hid hN
  have HTT := Lib.hid hT
  have HX := Lib.hid hx
  clear hc hN hT hx
  go_enter Tryz.func141, Tryz.ntmps141
  go_wp2
  go_loopw [5, 13] (fun here i wr => ∃ (k : Nat) (y : NodeM), k ≤ n ∧ i = .int .i64 k ∧ here = .pointer (some ⟨y.ptr, 0, none⟩) ∧ Hid (y ∈ T ∧ y.path = x.path ++ (l.take k).map (·.data.toList)) ∧ wr = w) (fun _ i _ => n - (intOf i).toNat)
  case atStart => exact ⟨0, x, Nat.zero_le _, rfl, rfl, Lib.hid ⟨HX.out, by simp⟩, rfl⟩
  case round =>
    obtain ⟨k, y, hk, rfl, rfl, HY, rfl⟩ := hrel
    by_cases hlt : k < n
    · have hkl : k < l.length := by omega
      have hcell := HC.out k hkl
      have CI := Lib.hid (kidIdx_any T y l[k] wr B HNN.out HTT.out HY.out.1 hn)
      cases hf : found (kids T y.path) l[k].data.toList
      · have HE : Hid (ptrOf T (x.path ++ (l.take n).map (·.data.toList)) = none) := Lib.hid (ptr_none fun z hz ez => by
          obtain ⟨u, hu, eu⟩ := HTT.out.front (z.path.length - (x.path.length + (k + 1))) (x.path.length + (k + 1)) z hz (by rw [ez]; simp; omega)
          have e2 : u.path = y.path ++ [l[k].data.toList] := by
            rw [eu, ez, HY.out.2, List.take_length_add_append, ← List.map_take, List.take_take, Nat.min_eq_left (by omega), take_data l k hkl, List.append_assoc]
          have e3 := found_mem (HTT.out.kids_rise y.path) (kids_snoc hu e2)
          rw [last_snoc e2, hf] at e3
          cases e3)
        obtain ⟨m, hm⟩ : ∃ m, idx (kids T y.path) l[k].data.toList = m := ⟨_, rfl⟩
        rw [hf, hm] at CI
        obtain ⟨p, hp⟩ : ∃ p, l[k] = p := ⟨_, rfl⟩
        rw [hp] at CI hcell
        clear hf hm hp HY
        go_wp2_with (go_at_call 169; refine CI.out.mono ?_; rintro e w' ⟨rfl, rfl⟩)
        go_ret
        exact ⟨by rw [HE.out]; rfl, rfl⟩
      · obtain ⟨hi, he⟩ := found_at hf
        obtain ⟨kg, kcap, hkv, hkc⟩ := kid_cell HNN.out HY.out.1 hi
        have hkid := hkc _ hi
        have hload := (HNN.out.box y HY.out.1).2.kids
        obtain ⟨z, hz⟩ : ∃ z, (kids T y.path)[idx (kids T y.path) l[k].data.toList] = z := ⟨_, rfl⟩
        have hzm : z ∈ kids T y.path := by rw [← hz]; exact List.getElem_mem _
        rw [hz] at hkid he
        have HZ : Hid (z ∈ T ∧ z.path = x.path ++ (l.take (k + 1)).map (·.data.toList)) := Lib.hid ⟨(kids_mem.1 hzm).1, by
          rw [(kids_mem.1 hzm).2, he, HY.out.2, take_data l k hkl, List.append_assoc]⟩
        rw [hkv] at hload
        obtain ⟨K, hK⟩ : ∃ K, (kids T y.path).length = K := ⟨_, rfl⟩
        rw [hK] at hload hi
        obtain ⟨m, hm⟩ : ∃ m, idx (kids T y.path) l[k].data.toList = m := ⟨_, rfl⟩
        rw [hf, hm] at CI
        rw [hm] at hi hkid
        obtain ⟨p, hp⟩ : ∃ p, l[k] = p := ⟨_, rfl⟩
        rw [hp] at CI hcell
        clear hf hm hp HY hz hzm he hkv hkc hK
        go_wp2_with (go_at_call 169; refine CI.out.mono ?_; rintro e w' ⟨rfl, rfl⟩)
        go_roundw
        case rel => exact ⟨k + 1, z, by omega, by go_num, rfl, HZ, by trivial⟩
        case measure => simp [intOf]; omega
    · obtain rfl : k = n := by omega
      have HE : Hid (ptrOf T (x.path ++ (l.take k).map (·.data.toList)) = some ⟨y.ptr, 0, none⟩) := Lib.hid (by rw [← HY.out.2]; exact HTT.out.ptr_at HY.out.1)
      go_wp2
      go_ret
      exact ⟨by rw [HE.out]; rfl, rfl⟩

/-- Is there an empty node below? (n: how deep it is looked.) -/
def hasE (T : List NodeM) : Nat → List (List UInt8) → Bool
  | 0, _ => false
  | n + 1, p => (kids T p).any fun c => emptyB T c || hasE T n c.path

def noneE (T : List NodeM) (n : Nat) (p : List (List UInt8)) (k : Nat) : Prop := ∀ t (h : t < (kids T p).length), t < k → (emptyB T (kids T p)[t] || hasE T n (kids T p)[t].path) = false

theorem any_hit {α : Type} {l : List α} {q : α → Bool} {k : Nat} (h : k < l.length) (e : q l[k] = true) : l.any q = true := List.any_eq_true.2 ⟨_, List.getElem_mem h, e⟩
theorem any_none {α : Type} {l : List α} {q : α → Bool} (h : ∀ t (h : t < l.length), q l[t] = false) : l.any q = false := by
  cases e : l.any q
  · rfl
  · obtain ⟨x, hx, e⟩ := List.any_eq_true.1 e
    obtain ⟨t, ht, rfl⟩ := List.mem_iff_getElem.1 hx
    rw [h t ht] at e; cases e

set_option maxRecDepth 100000 in
set_option maxHeartbeats 1600000 in
theorem hasE_any (T : List NodeM) (w : World) (B : Nat) (HNN : Hid (Nodes w B T)) (hn : T.length ≤ 4000000) : ∀ (n : Nat) (x : NodeM), x ∈ T → (∀ y ∈ T, x.path <+: y.path → y.path.length ≤ x.path.length + n) →
    Calls Tryz.prog 123 #[.pointer (some ⟨x.ptr, 0, none⟩)] w fun e w' => e = .returned (.bool (hasE T n x.path)) ∧ w = w'
  | 0, x, hx, hd => by
    have e0 : (kids T x.path).length = 0 := by
      rw [List.length_eq_zero_iff, List.eq_nil_iff_forall_not_mem]
      intro y hy
      have := hd y (kids_mem.1 hy).1 (by rw [(kids_mem.1 hy).2]; exact List.prefix_append _ _)
      rw [(kids_mem.1 hy).2] at this
      simp at this
      omega
    have hc := (HNN.out.box x hx).2.kids
    obtain ⟨a, c, hv⟩ := own_slice (HNN.out.kid x hx)
    rw [hv, e0] at hc
    clear hv e0 hd hn
    go_enter Tryz.func123, Tryz.ntmps123
    go_wp2
    go_loopw [10] (fun i wr => i = .int .i64 0 ∧ wr = w) (fun _ _ => 0)
    case atStart => exact ⟨rfl, rfl⟩
    case round =>
      obtain ⟨rfl, rfl⟩ := hrel
      go_wp2
      go_ret
      exact ⟨rfl, rfl⟩
  | n + 1, x, hx, hd => by
    have hc := (HNN.out.box x hx).2.kids
    obtain ⟨a, c, hv⟩ := own_slice (HNN.out.kid x hx)
    have IH := Lib.hid (fun y (hy : y ∈ kids T x.path) => hasE_any T w B HNN hn n y (kids_mem.1 hy).1 (fun z hz hp => by
      have h1 := hd z hz (List.IsPrefix.trans (by rw [(kids_mem.1 hy).2]; exact List.prefix_append _ _) hp)
      rw [(kids_mem.1 hy).2]; simp; omega))
    have CE := Lib.hid (fun y (hy : y ∈ kids T x.path) => isEmpty_any T y w B HNN.out (kids_mem.1 hy).1)
    have HKC := Lib.hid (fun k (hk : k < (kids T x.path).length) => kid_cell HNN.out hx hk)
    have hkn : (kids T x.path).length ≤ 4000000 := Nat.le_trans (kids_le _ _) hn
    have HV := Lib.hid hv
    rw [hv] at hc
    have HQ : Hid (hasE T (n + 1) x.path = (kids T x.path).any fun c => emptyB T c || hasE T n c.path) := Lib.hid rfl
    obtain ⟨r, hr⟩ : ∃ r, hasE T (n + 1) x.path = r := ⟨_, rfl⟩
    rw [hr] at HQ ⊢
    have HN0 : Hid (noneE T n x.path 0) := Lib.hid (fun t h h2 => absurd h2 (Nat.not_lt_zero _))
    clear hv hd hr
    unfold noneE at HN0
    generalize kids T x.path = K at hc IH CE HKC hkn HQ HV HN0
    go_enter Tryz.func123, Tryz.ntmps123
    go_wp2
    go_loopw [10] (fun i wr => ∃ k : Nat, k ≤ K.length ∧ i = .int .i64 k ∧ Hid (∀ t (h : t < K.length), t < k → (emptyB T K[t] || hasE T n K[t].path) = false) ∧ wr = w) (fun i _ => K.length - (intOf i).toNat)
    case atStart => exact ⟨0, Nat.zero_le _, rfl, HN0, rfl⟩
    case round =>
      obtain ⟨k, hk, rfl, HN, rfl⟩ := hrel
      by_cases hlt : k < K.length
      · obtain ⟨kg, kcap, hkv, hkc⟩ := HKC.out k hlt
        have hcell := hkc k hlt
        have he := HV.out.symm.trans hkv
        have c1 := CE.out K[k] (List.getElem_mem hlt)
        have c2 := IH.out K[k] (List.getElem_mem hlt)
        have HS := Lib.hid (fun (e : (emptyB T K[k] || hasE T n K[k].path) = false) (t : Nat) (ht : t < K.length) (h : t < k + 1) => (by
          rcases Nat.lt_or_ge t k with h1 | h1
          · exact HN.out t ht h1
          · obtain rfl : t = k := by omega
            exact e : (emptyB T K[t] || hasE T n K[t].path) = false))
        have HT := Lib.hid (fun (e : (emptyB T K[k] || hasE T n K[k].path) = true) => (HQ.out.trans (any_hit (q := fun c => emptyB T c || hasE T n c.path) hlt e) : r = true))
        obtain ⟨e1, he1⟩ : ∃ b, emptyB T K[k] = b := ⟨_, rfl⟩
        obtain ⟨e2, he2⟩ : ∃ b, hasE T n K[k].path = b := ⟨_, rfl⟩
        obtain ⟨b, hb⟩ : ∃ b, K[k].ptr = b := ⟨_, rfl⟩
        rw [he1] at c1 HS HT; rw [he2] at c2 HS HT; rw [hb] at c1 c2 hcell
        have C1 := Lib.hid c1
        have C2 := Lib.hid c2
        rw [show a = some ⟨kg, 0, none⟩ from (by cases he; rfl)] at hc
        rw [show a = some ⟨kg, 0, none⟩ from (by cases he; rfl)]
        clear he1 he2 hb c1 c2 hkv hkc he HN
        cases e1
        · cases e2
          · have HN2 := Lib.hid (HS.out rfl)
            clear HS HT
            go_wp2_with (first | (go_at_call 142; refine C1.out.mono ?_; rintro e w' ⟨rfl, rfl⟩) | (go_at_call 123; refine C2.out.mono ?_; rintro e w' ⟨rfl, rfl⟩))
            go_roundw
            case rel => exact ⟨k + 1, by omega, by go_num, HN2, by trivial⟩
            case measure => simp [intOf]; omega
          · have HT2 := Lib.hid (HT.out rfl)
            clear HS HT
            go_wp2_with (first | (go_at_call 142; refine C1.out.mono ?_; rintro e w' ⟨rfl, rfl⟩) | (go_at_call 123; refine C2.out.mono ?_; rintro e w' ⟨rfl, rfl⟩))
            go_ret
            exact ⟨ret_bool HT2.out.symm, rfl⟩
        · have HT2 := Lib.hid (HT.out rfl)
          clear HS HT
          go_wp2_with (go_at_call 142; refine C1.out.mono ?_; rintro e w' ⟨rfl, rfl⟩)
          go_ret
          exact ⟨ret_bool HT2.out.symm, rfl⟩
      · obtain rfl : k = K.length := by omega
        have HE : Hid (r = false) := Lib.hid (HQ.out.trans (any_none fun t ht => HN.out t ht ht))
        go_wp2
        go_ret
        exact ⟨ret_bool HE.out.symm, rfl⟩

end Go.Proofs.YtmfbffhbgelnnaaGreatDoor
