/- The walks of pathBelow, (*node).appendKnots, (*node).knots: the tree as a list of knots. -/
import Derived.Test.YtcpoodhbakkmcaaGreatDoorZNodeI
import Derived.Test.YtcpoodhbakkmcaaGreatDoorZB1
import Derived.Test.YtcpoodhbakkmcaaGreatDoorZB6
set_option linter.unusedSimpArgs false
set_option linter.unusedVariables false
namespace Go.Proofs.YtcpoodhbakkmcaaGreatDoor
open Go.RowKit

def belowS (s t : ByteArray) : ByteArray := if s.data.toList = [] then t else bts (s.data.toList ++ 47 :: t.data.toList)

theorem belowS_jl {P : PathM} {l : List UInt8} (hg : Good (P ++ [l])) : belowS (bts (jl P)) (bts l) = bts (jl (P ++ [l])) := by
  unfold belowS
  by_cases hp : P = []
  · subst hp; rw [if_pos (show (bts (jl [])).data.toList = [] from rfl)]; rfl
  · have hgp : Good P := fun p h => hg p (List.mem_append_left _ h)
    rw [if_neg (show ¬ (bts (jl P)).data.toList = [] from jl_ne hgp hp), jl_snoc _ _ hp]; rfl

set_option maxHeartbeats 400000 in
theorem pathBelow_any (s t : ByteArray) (w : World) (hs : s.size ≤ 4194304) (ht : t.size ≤ 4194304) :
    Calls Tryz.prog 77 #[.string s, .string t] w fun e w' => e = .returned (.string (belowS s t)) ∧ w = w' := by
  by_cases h : s.data.toList = []
  · have hb : belowS s t = t := by unfold belowS; rw [if_pos h]
    have hse : s = ⟨#[]⟩ := by
      have := Array.toList_inj.1 (h.trans (show [] = (#[] : Array UInt8).toList from rfl))
      cases s; congr
    rw [hb]
    subst hse
    go_enter Tryz.func77, Tryz.ntmps77
    go_wp2
    go_ret
    exact ⟨rfl, rfl⟩
  · have h1 : (s.toList == []) = false := by rw [beq_eq_false_iff_ne, Lib.toList_data]; exact h
    have hb : belowS s t = s ++ ⟨#[47]⟩ ++ t := by
      unfold belowS; rw [if_neg h]
      apply ByteArray.ext
      apply Array.toList_inj.1
      simp [bts, ByteArray.data_append]
    rw [hb]
    clear hb h
    go_enter Tryz.func77, Tryz.ntmps77
    go_wp2
    go_ret
    exact ⟨rfl, rfl⟩

/-- A node as a knot. -/
def knotOf (y : NodeM) : KnotM := (bts (jl y.path), y.ids)

def rowsOf (S : List NodeM) : List Value := S.map (·.idsV)
def knotsOf (S : List NodeM) : List KnotM := S.map knotOf

theorem knotsOf_append (a b : List NodeM) : knotsOf (a ++ b) = knotsOf a ++ knotsOf b := List.map_append
theorem rowsOf_append (a b : List NodeM) : rowsOf (a ++ b) = rowsOf a ++ rowsOf b := List.map_append
theorem rows_knots (S : List NodeM) : (rowsOf S).length = (knotsOf S).length := by simp [rowsOf, knotsOf]

/-- What a call of appendKnots leaves. -/
def ListAt (w0 : World) (L : List KnotM) (us : List Value) (S : List NodeM) (e : Ending) (w' : World) : Prop :=
  ∃ u, e = .returned u ∧ w'.ownsRow w0.heap.size 43 2 u (L ++ knotsOf S).length (kcells (L ++ knotsOf S) (us ++ rowsOf S)) ∧ Below w0.heap.size w0 w'

def KnotsStmt (w0 : World) (T : List NodeM) (x : NodeM) : Prop :=
  ∀ (w : World) (v : Value) (L : List KnotM) (us : List Value), Below w0.heap.size w0 w → us.length = L.length → w.ownsRow w0.heap.size 43 2 v L.length (kcells L us) → L.length + (sub T x.path).length ≤ 4000000 →
    Calls Tryz.prog 47 #[.pointer (some ⟨x.ptr, 0, none⟩), v, .string (bts (jl x.path))] w fun e w' => ListAt w0 L us (sub T x.path) e w'

theorem knot_info : ∃ i, Tryz.prog.info? 43 = some i ∧ i.zero = some (.agg #[.string ⟨#[]⟩, .slice none 0 0]) ∧ i.size = 2 ∧ i.bytes = 40 := info_parts (by kernel_rfl)

theorem own_knots_eq {w : World} {B : Nat} {v : Value} {l m : List KnotM} {us vs : List Value} (h : w.ownsRow B 43 2 v l.length (kcells l us)) (e : l = m) (e2 : us = vs) : w.ownsRow B 43 2 v m.length (kcells m vs) := by rw [← e, ← e2]; exact h

theorem two_one (P : ByteArray) (a : Option Addr) (n c : Nat) : ∀ u ∈ [Value.string P, .slice a n c], u.oneCell' = true := fun u hu => by
  rcases List.mem_cons.1 hu with rfl | hu
  · rfl
  · rw [List.mem_singleton.1 hu]; rfl

theorem src_knot1 (w : World) (s : ByteArray) (u : Value) : SrcAt (w.alloc (.cells #[.string s, u] 43)) (.slice (some ⟨w.heap.size, 0, none⟩) 1 1) 1 [.string s, u] :=
  ⟨_, _, rfl, .inr ⟨_, rfl, fun j v hv => by
    rw [Addr.add_lit, Nat.zero_add]
    exact (cell_of_heap (heap_alloc_new w _) j).trans (by rw [← hv]; simp)⟩⟩

set_option maxRecDepth 100000 in
set_option maxHeartbeats 3200000 in
theorem knots_step (w0 : World) (B : Nat) (T : List NodeM) (x : NodeM) (HNN : Hid (Nodes w0 B T)) (hx : x ∈ T) (hT : TreeOk T) (hF : ∀ y ∈ T, Fine y.path) (hS : ∀ y ∈ T, (jl y.path).length ≤ 2097152) (IH : ∀ c ∈ kids T x.path, KnotsStmt w0 T c) : KnotsStmt w0 T x := by
  intro w v L us hb hul ho hlen
  have HSB := Lib.hid (sub_cons hT hF hx)
  have hks := ((HNN.out.below hb).box x hx).2.kids
  have his := ((HNN.out.below hb).box x hx).2.ids
  have hks0 := (HNN.out.box x hx).2.kids
  obtain ⟨ka, kc, hkv⟩ := own_slice (HNN.out.kid x hx)
  obtain ⟨ia, ic, hiv⟩ := own_slice (HNN.out.ids x hx)
  have HIV := Lib.hid hiv
  rw [hkv] at hks hks0
  rw [hiv] at his
  have HK0 := Lib.hid hks0
  have HIH := Lib.hid IH
  have HKC := Lib.hid (fun k (hk : k < (kids T x.path).length) => kid_cell HNN.out hx hk)
  have HKV := Lib.hid hkv
  have HPT := Lib.hid (fun k (hk : k < (kids T x.path).length) => (HNN.out.box _ (kids_mem.1 (List.getElem_mem hk)).1).2.part)
  have HGD := Lib.hid (fun k (hk : k < (kids T x.path).length) => show Good (x.path ++ [(kids T x.path)[k].last]) ∧ (kids T x.path)[k].path = x.path ++ [(kids T x.path)[k].last] ∧ (jl (kids T x.path)[k].path).length ≤ 2097152 by
    have h := kids_mem.1 (List.getElem_mem hk)
    exact ⟨by rw [← h.2]; exact hT.good _ h.1, h.2, hS _ h.1⟩)
  have HSX := Lib.hid (hS x hx)
  obtain ⟨i1, hi1, hz1, hy1, hq1⟩ := knot_info
  have HO := Lib.hid ho
  have HB := Lib.hid hb
  have HUL := Lib.hid hul
  obtain ⟨va, vc, rfl⟩ := own_slice ho
  have hkl : (kids T x.path).length ≤ 4000000 := by
    have e := congrArg List.length HSB.out
    rw [List.length_cons, List.length_flatMap] at e
    have h2 : ∀ K : List NodeM, (∀ c ∈ K, c ∈ T) → K.length ≤ (K.map fun c => (sub T c.path).length).sum := fun K hK => by
      induction K with
      | nil => simp
      | cons c K ih =>
        have := ih (fun d hd => hK d (List.mem_cons_of_mem _ hd))
        have h3 : 1 ≤ (sub T c.path).length := by rw [sub_cons hT hF (hK c (by simp))]; simp
        simp only [List.map_cons, List.sum_cons, List.length_cons]; omega
    have := h2 (kids T x.path) (fun c hc => (kids_mem.1 hc).1)
    omega
  obtain ⟨S, hSd⟩ : ∃ S, sub T x.path = S := ⟨_, rfl⟩
  rw [hSd] at HSB hlen ⊢
  obtain ⟨F, hFd⟩ : ∃ F : NodeM → List NodeM, (fun c => sub T c.path) = F := ⟨_, rfl⟩
  have HFD := Lib.hid (fun c => congrFun hFd c)
  have HSE : Hid (S = x :: (kids T x.path).flatMap F) := Lib.hid (by rw [HSB.out, hFd])
  have hlen2 : L.length + 1 + ((kids T x.path).flatMap F).length ≤ 4000000 := by have := congrArg List.length HSE.out; rw [List.length_cons] at this; omega
  have hw0 := hb.size
  obtain ⟨P, hP⟩ : ∃ P, bts (jl x.path) = P := ⟨_, rfl⟩
  have HP := Lib.hid hP
  rw [hP]
  clear HSB hiv hkv hb hul ho hSd hFd hF hS hT IH hks0 hP hlen
  generalize kids T x.path = K at *
  go_enter Tryz.func47, Tryz.ntmps47
  go_wp2_with (at_builtin; refine wpList_append_src rfl (.tmp 9) (.tmp 16) 27 rfl w0.heap.size 43 i1 (.agg #[.string ⟨#[]⟩, .slice none 0 0]) 2 40 Tryz.underlying27 hi1 hz1 hy1 hq1 rfl (by decide) _ _ L.length 1 (kcells L us) [.string P, .slice ia x.ids.length ic] rfl (row_below HO.out ((Below.refl _ _).alloc (Nat.le_refl _) _)) rfl (src_knot1 w P _) rfl (two_one _ _ _ _) (by unfold maxLen; omega) (by omega) (by simp; omega) ?_)
  intro v' w' hr1 hg1 _
  have HB' := Lib.hid ((HB.out.trans ((Below.refl w0.heap.size w).alloc hw0 _)).grown hg1 (by simp; omega) (fun j h => (HO.out.lt j h).1))
  obtain ⟨X, hX⟩ : ∃ X, L ++ [knotOf x] = X := ⟨_, rfl⟩
  obtain ⟨vs, hvs⟩ : ∃ vs, us ++ [x.idsV] = vs := ⟨_, rfl⟩
  have HXL : Hid (vs.length = X.length) := Lib.hid (by rw [← hX, ← hvs]; simp [HUL.out])
  have hXl : X.length = L.length + 1 := by rw [← hX]; simp
  have HFM : Hid (X ++ knotsOf (K.flatMap F) = L ++ knotsOf S ∧ vs ++ rowsOf (K.flatMap F) = us ++ rowsOf S) := Lib.hid (by
    rw [HSE.out, ← hX, ← hvs, List.append_assoc, List.append_assoc]; exact ⟨rfl, rfl⟩)
  have HX0 : Hid (w'.ownsRow w0.heap.size 43 2 v' (X ++ knotsOf ((K.take 0).flatMap F)).length (kcells (X ++ knotsOf ((K.take 0).flatMap F)) (vs ++ rowsOf ((K.take 0).flatMap F)))) := Lib.hid (by
    have e1 : kcells L us ++ [.string P, .slice ia x.ids.length ic] = kcells X vs := by rw [← hX, ← hvs, kcells_append _ _ _ _ HUL.out, ← HP.out, ← HIV.out]; rfl
    rw [e1, ← hXl] at hr1
    simpa [knotsOf, rowsOf] using hr1)
  have hks2 : w'.cell? ⟨x.ptr, 2, none⟩ = some (.slice ka K.length kc) := (HB'.out.cell (World.block_lt_of_cell? _ _ HK0.out)).trans HK0.out
  have hlen3 : X.length + (K.flatMap F).length ≤ 4000000 := by omega
  clear hr1 hg1 hX hvs hXl hks his hlen2 hw0 HO
  go_wp2
  go_loopw [1, 23] (fun s1 s23 wr => ∃ k : Nat, k ≤ K.length ∧ s23 = .int .i64 k ∧ Hid (wr.ownsRow w0.heap.size 43 2 s1 (X ++ knotsOf ((K.take k).flatMap F)).length (kcells (X ++ knotsOf ((K.take k).flatMap F)) (vs ++ rowsOf ((K.take k).flatMap F)))) ∧ Hid (Below w0.heap.size w0 wr)) (fun _ s23 _ => K.length - (intOf s23).toNat)
  case atStart => exact ⟨0, Nat.zero_le _, rfl, HX0, HB'⟩
  case round =>
    obtain ⟨k, hk, rfl, HOR, HBR⟩ := hrel
    by_cases hlt : k < K.length
    · obtain ⟨kg, kcap, hkv, hkc⟩ := HKC.out k hlt
      have he := HKV.out.symm.trans hkv
      obtain rfl : ka = some ⟨kg, 0, none⟩ := by cases he; rfl
      have hcell0 := hkc k hlt
      have hpart0 := HPT.out k hlt
      have hcell := (HBR.out.cell (World.block_lt_of_cell? _ _ hcell0)).trans hcell0
      have hpart := (HBR.out.cell (World.block_lt_of_cell? _ _ hpart0)).trans hpart0
      obtain ⟨hg1, hg2, hg3⟩ := HGD.out k hlt
      have hbj : belowS P (bts K[k].last) = bts (jl K[k].path) := by rw [← HP.out, hg2]; exact belowS_jl hg1
      have hll : K[k].last.length ≤ 2097152 := by
        refine Nat.le_trans ?_ hg3
        rw [hg2]
        by_cases hp : x.path = []
        · rw [hp]; exact Nat.le_refl _
        · rw [jl_snoc _ _ hp]; simp; omega
      have CB := Lib.hid (fun wx => pathBelow_any P (bts K[k].last) wx (by rw [← HP.out]; show (bts (jl x.path)).data.size ≤ _; have := HSX.out; simp [bts]; omega) (by show (bts K[k].last).data.size ≤ _; simp [bts]; omega))
      rw [hbj] at CB
      have hle := flat_le K F k hlt
      have CI := Lib.hid (HIH.out K[k] (List.getElem_mem hlt) wr _ (X ++ knotsOf ((K.take k).flatMap F)) (vs ++ rowsOf ((K.take k).flatMap F)) HBR.out (by rw [List.length_append, List.length_append, rows_knots, HXL.out]) HOR.out (by rw [HFD.out]; rw [List.length_append]; simp only [knotsOf, List.length_map]; omega))
      have HNX : Hid (X ++ knotsOf ((K.take k).flatMap F) ++ knotsOf (sub T K[k].path) = X ++ knotsOf ((K.take (k + 1)).flatMap F) ∧ vs ++ rowsOf ((K.take k).flatMap F) ++ rowsOf (sub T K[k].path) = vs ++ rowsOf ((K.take (k + 1)).flatMap F)) := Lib.hid (by
        rw [flat_take K F k hlt, HFD.out, knotsOf_append, rowsOf_append, List.append_assoc, List.append_assoc]; exact ⟨rfl, rfl⟩)
      obtain ⟨y, hy⟩ : ∃ y, K[k] = y := ⟨_, rfl⟩
      rw [hy] at hcell hpart CB CI HNX
      obtain ⟨q, hq⟩ : ∃ q, bts y.last = q := ⟨_, rfl⟩
      rw [hq] at hpart CB
      obtain ⟨z, hz⟩ : ∃ z, bts (jl y.path) = z := ⟨_, rfl⟩
      rw [hz] at CB CI
      clear hkv hkc he hcell0 hpart0 hg1 hg2 hg3 hbj hll hle hy hq hz HOR
      go_wp2_with fail
      refine (CB.out _).mono ?_
      rintro e w5 ⟨rfl, rfl⟩
      go_wp2_with fail
      refine CI.out.mono ?_
      rintro e w6 ⟨u, rfl, ho6, hb6⟩
      have HO6 := Lib.hid (own_knots_eq ho6 HNX.out.1 HNX.out.2)
      have HB6 := Lib.hid hb6
      clear ho6 hb6 CI CB
      go_wp2
      go_roundw
      case rel => exact ⟨k + 1, by omega, by go_num, HO6, HB6⟩
      case measure => simp [intOf]; omega
    · obtain rfl : k = K.length := by omega
      have HE := Lib.hid (own_knots_eq HOR.out (show X ++ knotsOf ((K.take K.length).flatMap F) = L ++ knotsOf S by rw [List.take_length, HFM.out.1]) (show _ = us ++ rowsOf S by rw [List.take_length, HFM.out.2]))
      clear HOR
      go_wp2
      go_ret
      exact ⟨_, rfl, HE.out, HBR.out⟩

theorem knots_any (w0 : World) (B : Nat) (T : List NodeM) (HNN : Hid (Nodes w0 B T)) (hT : TreeOk T) (hF : ∀ y ∈ T, Fine y.path) (hS : ∀ y ∈ T, (jl y.path).length ≤ 2097152) : ∀ (n : Nat) (x : NodeM), x ∈ T → (∀ y ∈ T, x.path <+: y.path → y.path.length ≤ x.path.length + n) → KnotsStmt w0 T x
  | 0, x, hx, hd => knots_step w0 B T x HNN hx hT hF hS (fun c hc => by
    exfalso
    have h := kids_mem.1 hc
    have := hd c h.1 (by rw [h.2]; exact List.prefix_append _ _)
    rw [h.2] at this; simp at this; omega)
  | n + 1, x, hx, hd => knots_step w0 B T x HNN hx hT hF hS (fun c hc => knots_any w0 B T HNN hT hF hS n c (kids_mem.1 hc).1 (fun z hz hpz => by
    have h1 := hd z hz (List.IsPrefix.trans (by rw [(kids_mem.1 hc).2]; exact List.prefix_append _ _) hpz)
    rw [(kids_mem.1 hc).2]; simp; omega))

theorem depth_some (T : List NodeM) : ∃ n, ∀ y ∈ T, y.path.length ≤ n := by
  induction T with
  | nil => exact ⟨0, fun y hy => by cases hy⟩
  | cons a T ih =>
    obtain ⟨n, hn⟩ := ih
    refine ⟨n + a.path.length, fun y hy => ?_⟩
    rcases List.mem_cons.1 hy with rfl | hy
    · omega
    · have := hn y hy; omega

/-- The list of the nodes, in order, as an own row of knots: its rows of numbers are the nodes' own. -/
theorem knots_own {w w0 : World} {B : Nat} {T : List NodeM} {u : Value} (hN : Nodes w0 B T) (hT : TreeOk T) (hB : B ≤ w0.heap.size) (hb : Below w0.heap.size w0 w) (ho : w.ownsRow w0.heap.size 43 2 u (knotsOf T).length (kcells (knotsOf T) (rowsOf T))) :
    KOwnU w B u (knotsOf T) (rowsOf T) := by
  have hN' := hN.below hb
  have hne : 43 ≠ 2 := by decide
  refine ⟨rows_knots T, ?_, fun j h1 h2 => ?_, ?_⟩
  · refine ⟨ho.1, ?_⟩
    rcases ho.2 with h | ⟨g, cap, cur, h1, h2, h3⟩
    · exact .inl h
    · exact .inr ⟨g, cap, cur, h1, by omega, h3⟩
  · have h3 : j < T.length := by simpa [knotsOf] using h1
    have e1 : (rowsOf T)[j] = T[j].idsV := by simp [rowsOf]
    have e2 : (knotsOf T)[j].2 = T[j].ids := by simp [knotsOf, knotOf]
    rw [e1, e2]
    exact hN'.ids _ (List.getElem_mem h3)
  · rw [List.pairwise_cons]
    constructor
    · intro a ha
      obtain ⟨y, hy, rfl⟩ := List.mem_map.1 ha
      exact apart_types ho (hN'.ids y hy) hne
    · unfold rowsOf
      rw [List.pairwise_map]
      refine List.Pairwise.imp_of_mem ?_ hT.sorted
      intro a b ha hb2 hlt
      exact (hN.apart a ha b hb2 (fun e => by rw [e, less_irrefl] at hlt; cases hlt)).2.1

set_option maxHeartbeats 800000 in
theorem knotsOf_any (T : List NodeM) (x : NodeM) (w : World) (B : Nat) (hN : Nodes w B T) (hT : TreeOk T) (hx : x ∈ T) (hx0 : x.path = []) (hB : B ≤ w.heap.size) (hF : ∀ y ∈ T, Fine y.path) (hS : ∀ y ∈ T, (jl y.path).length ≤ 2097152) (hl : T.length ≤ 4000000) :
    Calls Tryz.prog 23 #[.pointer (some ⟨x.ptr, 0, none⟩)] w fun e w' => ∃ u, e = .returned u ∧ KOwnU w' B u (knotsOf T) (rowsOf T) ∧ Below w.heap.size w w' := by
  obtain ⟨n, hn⟩ := depth_some T
  have hsub : sub T x.path = T := by rw [hx0]; exact sub_root T
  have C := knots_any w B T (Lib.hid hN) hT hF hS n x hx (fun y hy _ => by have := hn y hy; omega) w (.slice none 0 0) [] [] (Below.refl _ _) rfl (World.ownsRow_nil _ _ _ _) (by rw [hsub]; simpa using hl)
  have he : bts (jl x.path) = ⟨#[]⟩ := by rw [hx0]; rfl
  have HC : Hid (Calls Tryz.prog 47 #[.pointer (some ⟨x.ptr, 0, none⟩), .slice none 0 0, .string ⟨#[]⟩] w fun e w' => ∃ u, e = .returned u ∧ KOwnU w' B u (knotsOf T) (rowsOf T) ∧ Below w.heap.size w w') := Lib.hid (by
    rw [he] at C
    refine C.mono ?_
    rintro e w' ⟨u, h1, h2, h3⟩
    rw [hsub, List.nil_append, List.nil_append] at h2
    exact ⟨u, h1, knots_own hN hT hB h3 h2, h3⟩)
  clear C hN hT hF hS hl he hsub hn hx0
  go_enter Tryz.func23, Tryz.ntmps23
  go_wp2_with fail
  refine HC.out.mono ?_
  rintro e w' ⟨u, rfl, h1, h2⟩
  have H1 := Lib.hid h1
  have H2 := Lib.hid h2
  clear h1 h2 HC
  go_wp2
  go_ret
  exact ⟨_, rfl, H1.out, H2.out⟩

end Go.Proofs.YtcpoodhbakkmcaaGreatDoor
