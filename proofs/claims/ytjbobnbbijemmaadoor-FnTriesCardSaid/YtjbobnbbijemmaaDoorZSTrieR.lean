/- The walk of the reference's WithoutId. -/
import Derived.Test.YtjbobnbbijemmaaDoorZB8
import Derived.Test.YtjbobnbbijemmaaDoorZB6
import Derived.Test.YtjbobnbbijemmaaDoorZSTrie2
import Derived.Test.YtjbobnbbijemmaaDoorZSTrie4
import Derived.Deep.RegionHeld
set_option linter.unusedSimpArgs false
set_option linter.unusedVariables false
namespace Go.Proofs.YtjbobnbbijemmaaDoor
open Go.RowKit

/-- One knot taken out of the middle. -/
theorem KOwnU.erase {w w' : World} {B j : Nat} {v v' : Value} {l : List KnotM} {us : List Value} (h : KOwnU w B v l us) (hg : GrownL w w' [v]) (hj : j < l.length)
    (hr : w'.ownsRow B 50 2 v' (dropK l j).length (kcells (dropK l j) (us.take j ++ us.drop (j + 1)))) :
    KOwnU w' B v' (dropK l j) (us.take j ++ us.drop (j + 1)) := by
  have hne : 2 ≠ 50 := by decide
  have hlen := h.1
  have hnum : ∀ i (h1 : i < (dropK l j).length) (h2 : i < (us.take j ++ us.drop (j + 1)).length), w'.ownsRow B 2 1 (us.take j ++ us.drop (j + 1))[i] (dropK l j)[i].2.length (ints (dropK l j)[i].2) := fun i h1 h2 => by
    obtain ⟨t, ht, e1, e2⟩ : ∃ t, ∃ ht : t < l.length, (us.take j ++ us.drop (j + 1))[i] = us[t]'(by omega) ∧ (dropK l j)[i] = l[t] := by
      have hl2 : (dropK l j).length = l.length - 1 := by unfold dropK; simp; omega
      by_cases hi : i < j
      · refine ⟨i, by omega, ?_, ?_⟩
        · rw [List.getElem_append_left (by simp; omega), List.getElem_take]
        · have h1' : i < (l.take j ++ l.drop (j + 1)).length := h1
          show (l.take j ++ l.drop (j + 1))[i]'h1' = l[i]
          rw [List.getElem_append_left (by simp; omega), List.getElem_take]
      · refine ⟨i + 1, by omega, ?_, ?_⟩
        · rw [List.getElem_append_right (by simp; omega), List.getElem_drop]
          congr 1; simp; omega
        · have h1' : i < (l.take j ++ l.drop (j + 1)).length := h1
          show (l.take j ++ l.drop (j + 1))[i]'h1' = l[i + 1]
          rw [List.getElem_append_right (by simp; omega), List.getElem_drop]
          congr 1; simp; omega
    rw [e1, e2]
    have hy := h.2.2.1 t ht (by omega)
    exact own_keptL hy hg fun z hz => by rw [List.mem_singleton.1 hz]; exact apart_types hy h.2.1 hne
  refine ⟨by unfold dropK; simp [hlen], hr, hnum, ?_⟩
  rw [List.pairwise_cons]
  refine ⟨fun y hy => ?_, ?_⟩
  · obtain ⟨i, hi, rfl⟩ := List.mem_iff_getElem.1 hy
    have hi2 : i < (dropK l j).length := by unfold dropK; simp at hi ⊢; omega
    exact apart_types hr (hnum i hi2 hi) (Ne.symm hne)
  · have hp := (List.pairwise_cons.1 h.2.2.2).2
    rw [List.pairwise_append]
    refine ⟨List.Pairwise.sublist (List.take_sublist j us) hp, List.Pairwise.sublist (List.drop_sublist (j + 1) us) hp, fun y hy z hz => ?_⟩
    rw [← List.take_append_drop j us, List.pairwise_append] at hp
    refine hp.2.2 y hy z ?_
    rw [show us.drop (j + 1) = (us.drop j).drop 1 by rw [List.drop_drop]] at hz
    exact List.mem_of_mem_drop hz

/-- What the loop knows of its list and path. -/
def Kept (lk : List KnotM) (pk : ByteArray) : Prop := PathsOk (paths (lk.map keyK)) ∧ pth pk ∈ paths (lk.map keyK)

theorem Kept.here {lk : List KnotM} {pk : ByteArray} (h : Kept lk pk) : ∃ j, ∃ h : j < lk.length, find lk pk = (j : Int) ∧ lk[j].1 = pk := by
  obtain ⟨j, hj, e, e2⟩ := find_pos (find_paths.2 h.2)
  exact ⟨j, hj, e, name_eq e2⟩

theorem Kept.next {lk : List KnotM} {pk : ByteArray} {j : Nat} (h : Kept lk pk) (hp : pk.toList ≠ []) (hj : find lk pk = (j : Int)) (hn : needK lk pk = false) : Kept (dropK lk j) (above pk) ∧ (dropK lk j).length + 1 = lk.length ∧ 0 < (dropK lk j).length := by
  obtain ⟨i, hi, e, e2⟩ := h.here
  have hij : i = j := by rw [hj] at e; omega
  subst hij
  have hpn : pth pk ≠ [] := fun e => hp (pth_nil.1 e)
  have he : emptyAt (lk.map keyK) (pth pk) = true := by have := need_keys h.1 h.2; rw [hn] at this; cases e3 : emptyAt (lk.map keyK) (pth pk); rw [e3] at this; cases this; rfl
  have hk := drop_keys (rising_of h.1) hi e2
  have hin : (pth pk).dropLast ∈ paths (cutAt (lk.map keyK) (pth pk)) := (cut_paths _ _ _).2 ⟨h.1.closed _ h.2 hpn, fun e => by have := congrArg List.length e; rw [List.length_dropLast] at this; have := List.length_pos_iff.2 hpn; omega⟩
  have hl : (dropK lk i).length + 1 = lk.length := by unfold dropK; simp; omega
  refine ⟨⟨by rw [hk]; exact cut_ok h.1 he, by rw [hk, pth_above (h.1.good _ h.2) hpn]; exact hin⟩, hl, ?_⟩
  obtain ⟨a, ha, _⟩ := mem_paths.1 hin
  rw [← hk] at ha
  have := List.length_pos_of_mem ha
  simpa using this

theorem remI_next_no {L : List Int} {k : Nat} {id : Int} (hk : k < L.length) (h : L[k] = id) : remI (L.take (k + 1)) id = remI (L.take k) id := by
  unfold remI
  rw [List.take_succ_eq_append_getElem hk, List.filter_append, List.filter_cons_of_neg (by simp [h])]; simp
theorem remI_next {L : List Int} {k : Nat} {id : Int} (hk : k < L.length) (h : L[k] ≠ id) : remI (L.take (k + 1)) id = remI (L.take k) id ++ [L[k]] := by
  unfold remI
  rw [List.take_succ_eq_append_getElem hk, List.filter_append, List.filter_cons_of_pos (by simpa using h)]; simp
theorem remI_len (L : List Int) (id : Int) : (remI L id).length ≤ L.length := List.length_filter_le _ _

theorem int_src (w : World) (y : Int) : SrcAt (w.alloc (.cells #[.int .i64 y] 2)) (.slice (some ⟨w.heap.size, 0, none⟩) 1 1) 1 [.int .i64 y] :=
  ⟨_, _, rfl, .inr ⟨_, rfl, fun j v hv => by
    rw [Addr.add_lit, Nat.zero_add]
    exact (cell_of_heap (heap_alloc_new w _) j).trans (by rw [← hv]; simp)⟩⟩

def KFit (l : List KnotM) : Prop := ∀ x ∈ l, x.1.size ≤ 1048576 ∧ x.2.length ≤ 1048576

theorem KFit.drop {l : List KnotM} {j : Nat} (h : KFit l) : KFit (dropK l j) := fun x hx => by
  unfold dropK at hx
  rcases List.mem_append.1 hx with h1 | h1
  · exact h x (List.mem_of_mem_take h1)
  · exact h x (List.mem_of_mem_drop h1)


set_option maxRecDepth 100000 in
set_option maxHeartbeats 6400000 in
theorem specWithout_any (v : Value) (l : List KnotM) (f : ByteArray) (id : Int) (w : World) (hl : KSmall l) (hfs : f.size ≤ 1048576) (hv : KnotsAt w v l) (hPO : trieB l = true → PathsOk (paths (l.map keyK))) :
    Calls Tryd.prog 10 #[v, .string f, .int .i64 id] w fun e w' => ∃ u, e = .returned (.tuple #[u, .bool (withoutL l f id).2]) ∧ KOwn w' w.heap.size u (withoutL l f id).1 ∧ Below w.heap.size w w' := by
  have HV := Lib.hid hv
  have CT := Lib.hid (specTrieOk_any v l w hl hv)
  have hl1 := hl.1
  have HL := Lib.hid hl.2
  obtain ⟨a, c, rfl, hc1, hc2, hc3⟩ := hv
  clear hl
  cases ht : trieB l
  · have HT : Hid (withoutL l f id = ([], false)) := Lib.hid (by rw [withoutL, ht]; rfl)
    rw [ht] at CT
    clear ht hc3 hPO
    go_enter Tryd.func10, Tryd.ntmps10
    go_wp2_with fail
    refine CT.out.mono ?_
    rintro e w1 ⟨rfl, hb⟩
    have HB := Lib.hid hb
    clear hb
    go_wp2
    go_ret2
    rw [HT.out]
    refine ⟨_, rfl, ⟨[], rfl, own_mono (World.ownsRow_lit (base := w1.heap.size) (e := 50) (size := 2) w1 #[] 0 (Nat.le_refl _) (by unfold maxLen; omega) rfl) HB.out.size, fun j h => by simp at h, List.pairwise_singleton _ _⟩, HB.out.alloc HB.out.size _⟩
  · have HPO := Lib.hid (hPO ht)
    have hpos : 0 < l.length := by
      cases l with
      | nil => cases ht
      | cons => simp
    obtain ⟨b, o, rfl, hin⟩ : ∃ b o, a = some ⟨b, o, none⟩ ∧ KnotsIn w b o l := by
      rcases hc3 with h | h
      · subst h; simp at hpos
      · exact h
    have HW : Hid (withoutL l f id = if badW l f id then (l, false) else (pruneL f.size (remK l (find l f).toNat id) f, true)) := Lib.hid (by rw [withoutL, ht]; rfl)
    have HIN := Lib.hid hin
    have hbw : b < w.heap.size := World.block_lt_of_cell? _ _ (hin 0 hpos).1
    rw [ht] at CT
    clear ht hc3 hin hPO
    have HCP := Lib.hid (fun wx (h : KnotsAt wx (.slice (some ⟨b, o, none⟩) l.length c) l) => specCopyT_any _ l wx (by omega) (fun x hx => (HL.out x hx).2) h)
    have HFD := Lib.hid (fun wx (h : KnotsAt wx (.slice (some ⟨b, o, none⟩) l.length c) l) => specFind_any _ l f wx (by omega) h)
    by_cases hat : 0 ≤ find l f
    · obtain ⟨j, hj, hjf, hjp⟩ := find_pos hat
      have HIX := Lib.hid (HIN.out j hj).2
      have CHS := Lib.hid (fun wx u (h : IntsAt wx u l[j].2) => specHas_any u l[j].2 id wx (by have := (HL.out _ (List.getElem_mem hj)).2; omega) h)
      have hjd : l.getD j knotZ = l[j] := by rw [List.getD_eq_getElem?_getD, List.getElem?_eq_getElem hj]; rfl
      rw [hjf] at HFD
      have g0 : decide ((j : Int) < 0) = false := decide_eq_false (by omega)
      cases hh : hasId l[j].2 id
      · have HR : Hid (withoutL l f id = (l, false)) := Lib.hid (by
          rw [HW.out, badW, hjf, Int.toNat_natCast, hjd, hh]; simp)
        rw [hh] at CHS
        clear HW hat hjf hh hjd hjp
        go_enter Tryd.func10, Tryd.ntmps10
        go_wp2_with fail
        refine CT.out.mono ?_
        rintro e w1 ⟨rfl, hb1⟩
        have HB1 := Lib.hid hb1
        have hw1 := hb1.size
        have CC := Lib.hid (HCP.out w1 (HV.out.below hb1))
        clear hb1 CT HCP
        go_wp2_with fail
        refine CC.out.mono ?_
        rintro e w2 ⟨out, rfl, k2, hb2⟩
        have hw2 := hb2.size
        have HB3 := Lib.hid (below_end HB1.out hb2)
        have K3 := Lib.hid k2
        have HI3 := Lib.hid (HIN.out.below HB3.out)
        have CD := Lib.hid (HFD.out w2 (HV.out.below HB3.out))
        clear k2 hb2 CC HFD
        go_wp2_with fail
        refine CD.out.mono ?_
        rintro e w' ⟨rfl, rfl⟩
        clear CD
        obtain ⟨hpj, u, hu, hids⟩ := HI3.out j hj
        have hids2 := hids
        obtain ⟨ua, uc, rfl, _, _, _⟩ := hids2
        have CH := Lib.hid (CHS.out _ _ hids)
        clear hids CHS hpj
        go_wp2_with (go_at_call 32; refine CH.out.mono ?_; rintro e w' ⟨rfl, rfl⟩)
        go_ret2
        rw [HR.out]
        exact ⟨_, rfl, K3.out.mono hw1, HB3.out⟩
      · have HR : Hid (withoutL l f id = (pruneL f.size (l.set j (l[j].1, remI l[j].2 id)) f, true)) := Lib.hid (by
          rw [HW.out, badW, hjf, Int.toNat_natCast, hjd, hh, remK, hjd]; simp)
        rw [hh] at CHS
        have HJP := Lib.hid (name_eq hjp)
        have hll := (HL.out _ (List.getElem_mem hj)).2
        clear HW hat hjf hh hjd hjp
        go_enter Tryd.func10, Tryd.ntmps10
        go_wp2_with fail
        refine CT.out.mono ?_
        rintro e w1 ⟨rfl, hb1⟩
        have HB1 := Lib.hid hb1
        have hw1 := hb1.size
        have CC := Lib.hid (HCP.out w1 (HV.out.below hb1))
        clear hb1 CT HCP
        go_wp2_with fail
        refine CC.out.mono ?_
        rintro e w2 ⟨out, rfl, k2, hb2⟩
        have hw2 := hb2.size
        have HB3 := Lib.hid (below_end HB1.out hb2)
        have K3 := Lib.hid k2
        have HI3 := Lib.hid (HIN.out.below HB3.out)
        have CD := Lib.hid (HFD.out w2 (HV.out.below HB3.out))
        clear k2 hb2 CC HFD
        go_wp2_with fail
        refine CD.out.mono ?_
        rintro e w' ⟨rfl, rfl⟩
        clear CD
        obtain ⟨hpj, u, hu, hids⟩ := HI3.out j hj
        have hids2 := hids
        obtain ⟨ua, uc, rfl, _, _, hid3⟩ := hids2
        have CH := Lib.hid (CHS.out _ _ hids)
        obtain ⟨us, hus⟩ := K3.out
        obtain ⟨g, cg, cur, hv8, hgB, hhg⟩ := hus.cells hpos
        subst hv8
        have HU3 := Lib.hid hus
        obtain ⟨L, hL⟩ : ∃ L, l[j].2 = L := ⟨_, rfl⟩
        rw [hL] at hu hid3 HR hll CH
        have HLE := Lib.hid hL
        have HI := Lib.hid hid3
        obtain ⟨n, hn⟩ : ∃ n, L.length = n := ⟨_, rfl⟩
        have HN := Lib.hid hn
        rw [hn] at hu hll CH
        have hbw2 : b < w2.heap.size := by omega
        obtain ⟨i1, hi1, hz1, hy1, hq1⟩ := info_parts (P := Tryd.prog) (e := 2) (z := .int .i64 0) (size := 1) (bytes := 8) (by kernel_rfl)
        clear hids CHS hpj hus hhg hL hn hid3
        go_wp2_with (go_at_call 32; refine CH.out.mono ?_; rintro e w' ⟨rfl, rfl⟩)
        clear CH
        go_loopw [10, 11] (fun s10 s11 wr => ∃ k : Nat, k ≤ n ∧ s11 = .int .i64 k ∧ Hid (wr.ownsRow w'.heap.size 2 1 s10 (remI (L.take k) id).length (ints (remI (L.take k) id))) ∧ Hid (Below w'.heap.size w' wr)) (fun _ s11 _ => n - (intOf s11).toNat)
        case atStart => exact ⟨0, Nat.zero_le _, rfl, own_lit_empty w', (Below.refl _ _).alloc (Nat.le_refl _) _⟩
        case round =>
          obtain ⟨k, hk, rfl, HO, HB⟩ := hrel
          have hur := (HB.out.cell hbw2).trans hu
          by_cases hlt : k < n
          · obtain ⟨ub, uo, rfl, hin⟩ : ∃ ub uo, ua = some ⟨ub, uo, none⟩ ∧ IntsIn w' ub uo L := by
              rcases HI.out with h | h
              · rw [← HN.out, h] at hlt; simp at hlt
              · exact h
            have hkL : k < L.length := by rw [HN.out]; exact hlt
            have hx0 := hin k hkL
            have hx := (HB.out.cell (World.block_lt_of_cell? _ _ hx0)).trans hx0
            have HNO := Lib.hid (fun h => remI_next_no (id := id) hkL h)
            have HYE := Lib.hid (fun h => remI_next (id := id) hkL h)
            obtain ⟨y, hy⟩ : ∃ y, L[k] = y := ⟨_, rfl⟩
            rw [hy] at hx HNO HYE
            clear hin hx0 hy
            by_cases hyi : y = id
            · have g1 : (y != id) = false := by simp [hyi]
              have HO2 : Hid (wr.ownsRow w'.heap.size 2 1 u10 (remI (L.take (k + 1)) id).length (ints (remI (L.take (k + 1)) id))) := Lib.hid (by rw [HNO.out hyi]; exact HO.out)
              clear HO HNO HYE hyi
              go_wp2
              go_roundw
              case rel => exact ⟨k + 1, by omega, by go_num, HO2, HB⟩
              case measure => simp [intOf]; omega
            · have g1 : (y != id) = true := by simp [hyi]
              obtain ⟨xa, xc, hs10⟩ := own_slice HO.out
              have HSX := Lib.hid (HYE.out hyi)
              have hrl := remI_len (L.take k) id
              rw [List.length_take] at hrl
              have hwr := HB.out.size
              clear HNO HYE hyi
              subst hs10
              go_wp2_with (at_builtin; refine wpList_append_src rfl (.tmp 57) (.tmp 66) 48 rfl w'.heap.size 2 i1 (.int .i64 0) 1 8 Tryd.underlying48 hi1 hz1 hy1 hq1 rfl (by decide) _ _ (remI (L.take k) id).length 1 (ints (remI (L.take k) id)) [.int .i64 y] rfl (row_below HO.out ((Below.refl _ _).alloc (Nat.le_refl _) _)) rfl (int_src wr y) rfl (by intro u hu; rw [List.mem_singleton.1 hu]; rfl) (by unfold maxLen; omega) (by omega) (by simp; omega) ?_)
              intro v' w4 hr4 hg4 _
              have HO4 : Hid (w4.ownsRow w'.heap.size 2 1 v' (remI (L.take (k + 1)) id).length (ints (remI (L.take (k + 1)) id))) := Lib.hid (by rw [HSX.out, List.length_append]; simpa [ints] using hr4)
              have HB4 := Lib.hid ((HB.out.trans ((Below.refl w'.heap.size wr).alloc hwr _)).grown hg4 (by simp; omega) (fun j h => (HO.out.lt j h).1))
              clear hr4 hg4 HO HB hur hx
              go_wp2
              go_roundw
              case rel => exact ⟨k + 1, by omega, by go_num, HO4, HB4⟩
              case measure => simp [intOf]; omega
          · obtain rfl : k = n := by omega
            obtain ⟨xa, xc, hs10⟩ := own_slice HO.out
            have HLT : Hid (L.take k = L) := Lib.hid (by rw [← HN.out, List.take_length])
            rw [HLT.out] at hs10
            have HRI : Hid (wr.ownsRow w'.heap.size 2 1 u10 (remI L id).length (ints (remI L id))) := Lib.hid (by have := HO.out; rw [HLT.out] at this; exact this)
            have HUW := Lib.hid (HU3.out.below HB.out)
            have hju : j < us.length := by rw [HU3.out.1]; exact hj
            have hcell := HUW.out.2.1.cellAt (j * 2 + 1) (by omega)
            rw [kcells_ids l us j hju HUW.out.1] at hcell
            obtain ⟨va, vc, huj⟩ := own_slice (HUW.out.2.2.1 j hj hju)
            rw [huj] at hcell
            have hfree : wr.frozen? ⟨g, j * 2 + 1, none⟩ = false := HUW.out.2.1.frozenAt (j * 2 + 1)
            have hwr := HB.out.size
            have hrl := remI_len L id
            rw [HN.out] at hrl
            obtain ⟨rn, hrn⟩ : ∃ rn, (remI L id).length = rn := ⟨_, rfl⟩
            have HRN := Lib.hid hrn
            rw [hrn] at hs10 hrl
            subst hs10
            have HU5 := Lib.hid (HUW.out.setIds (z := remI L id) (u := .slice xa rn xc) rfl hj (own_mono HRI.out (by omega)) (fun y hy => by
              obtain ⟨i, hi, rfl⟩ := List.mem_iff_getElem.1 hy
              cases e : (Value.slice xa rn xc).ownBlock with
              | none => exact .inl e
              | some b => exact .inr (fun e2 => by have h1 := (HRI.out.lt b e).1; have h2 := (HU3.out.2.2.1 i (by rw [← HU3.out.1]; exact hi) hi).lt b (by rw [← e2, e]); omega)))
            have HBF := Lib.hid ((below_end HB3.out HB.out).setCell (p := ⟨g, j * 2 + 1, none⟩) (show w.heap.size ≤ g by omega) (.slice xa rn xc))
            have HFIT : Hid (KFit (l.set j (l[j].1, remI L id))) := Lib.hid (fun x hx => by
              rcases List.mem_or_eq_of_mem_set hx with h | rfl
              · exact HL.out x h
              · exact ⟨(HL.out _ (List.getElem_mem hj)).1, by show (remI L id).length ≤ _; rw [HRN.out]; omega⟩)
            have HKP : Hid (Kept (l.set j (l[j].1, remI L id)) f) := Lib.hid (by
              have e := set_keys (l := l) (k := j) (p := f) (I := remI L id) (fun I => remI I id) hj (rising_of HPO.out) (by rw [HJP.out]) (by rw [HLE.out])
              have e2 : paths ((l.set j (l[j].1, remI L id)).map keyK) = paths (l.map keyK) := by rw [e]; exact remAt_paths (l.map keyK) (pth f) id
              refine ⟨by rw [e2]; exact HPO.out, ?_⟩
              rw [e2]
              exact mem_paths.2 ⟨keyK l[j], List.mem_map_of_mem (List.getElem_mem hj), by show pth l[j].1 = _; rw [HJP.out]⟩)
            have hws : w1.heap.size ≤ (wr.setCell ⟨g, j * 2 + 1, none⟩ (.slice xa rn xc)).heap.size := by simp [World.setCell]; omega
            have hll1 : (l.set j (l[j].1, remI L id)).length = l.length := by simp
            obtain ⟨l1, hl1d⟩ : ∃ l1, l.set j (l[j].1, remI L id) = l1 := ⟨_, rfl⟩
            rw [hl1d] at HU5 HFIT HKP HR hll1
            obtain ⟨R, hR⟩ : ∃ R, pruneL f.size l1 f = R := ⟨_, rfl⟩
            rw [hR] at HR
            have HRR := Lib.hid hR
            clear hl1d hR huj hrn HRI HO HUW HB HLE HLT hju
            go_wp2
            go_loopg [8, 12] f.size (fun gn s8 s12 wr => ∃ (lk : List KnotM) (pk : ByteArray), s12 = .string pk ∧ pk.size ≤ gn ∧ lk.length ≤ l.length ∧ 0 < lk.length ∧ Hid (KOwn wr w1.heap.size s8 lk) ∧ Hid (pruneL gn lk pk = R) ∧ Hid (Below w.heap.size w wr) ∧ w1.heap.size ≤ wr.heap.size ∧ Hid (Kept lk pk) ∧ Hid (KFit lk))
            case atStart => exact ⟨l1, f, rfl, Nat.le_refl _, by omega, by omega, Lib.hid ⟨_, HU5.out⟩, HRR, HBF, hws, HKP, HFIT⟩
            case round =>
              obtain ⟨lk, pk, rfl, hpk, hlk, hlp, KO, HPN, HBW, hww, HKT, HFT⟩ := hrel
              obtain ⟨us2, hus⟩ := KO.out
              have HU := Lib.hid hus
              clear hus KO
              by_cases hpe0 : pk.toList = []
              · have hpe : pk.toList.isEmpty = true := by rw [hpe0]; rfl
                have HLR : Hid (lk = R) := Lib.hid (by rw [← HPN.out]; cases gk <;> simp [pruneL, hpe0])
                clear hpe0
                go_wp2
                go_ret2
                rw [HR.out, ← HLR.out]
                exact ⟨_, rfl, KOwn.mono ⟨_, HU.out⟩ hw1, HBW.out⟩
              · have hpe : pk.toList.isEmpty = false := by rw [List.isEmpty_eq_false_iff]; exact hpe0
                have hps := size_pos hpe0
                obtain ⟨i, hi, hif, hip⟩ := HKT.out.here
                have hiu : i < us2.length := by rw [HU.out.1]; exact hi
                obtain ⟨g2, cg2, cur2, hv8, hgB2, hhg2⟩ := HU.out.cells hlp
                subst hv8
                have CF := Lib.hid (specFind_any _ lk pk wr (by omega) (own_knots_at ⟨us2, HU.out⟩))
                rw [hif] at CF
                have hcell2 := HU.out.2.1.cellAt (i * 2 + 1) (by omega)
                rw [kcells_ids lk us2 i hiu HU.out.1] at hcell2
                obtain ⟨ya, yc, hyi⟩ := own_slice (HU.out.2.2.1 i hi hiu)
                rw [hyi] at hcell2
                obtain ⟨nl, hnl⟩ : ∃ nl, lk[i].2.length = nl := ⟨_, rfl⟩
                rw [hnl] at hcell2
                have HND : Hid (needK lk pk = (decide (0 < nl) || childB lk pk)) := Lib.hid (by
                  unfold needK
                  rw [hif, Int.toNat_natCast, List.getD_eq_getElem?_getD, List.getElem?_eq_getElem hi]
                  show (decide (0 < lk[i].2.length) || _) = _
                  rw [hnl])
                obtain ⟨m, hm⟩ : ∃ m, gk = m + 1 := ⟨gk - 1, by omega⟩
                have HSTOP : Hid (needK lk pk = true → lk = R) := Lib.hid (fun h => by have := HPN.out; rw [hm, pruneL, if_neg hpe0, if_pos h] at this; exact this)
                have HGO : Hid (needK lk pk = false → pruneL m (dropK lk i) (above pk) = R ∧ Kept (dropK lk i) (above pk) ∧ (dropK lk i).length + 1 = lk.length ∧ 0 < (dropK lk i).length) := Lib.hid (fun h => ⟨by have := HPN.out; rw [hm, pruneL, if_neg hpe0, if_neg (by rw [h]; simp), hif, Int.toNat_natCast] at this; exact this, HKT.out.next hpe0 hif h⟩)
                have hab := above_size pk
                have hpz : pk.size ≤ 1048576 := by rw [← hip]; exact (HFT.out _ (List.getElem_mem hi)).1
                clear hpe0 HPN hyi hnl HKT hif hip hhg2 hiu
                by_cases hn0 : 0 < nl
                · have g3 : decide (0 < nl) = true := decide_eq_true hn0
                  have g4 : decide ((0 : Int) < (nl : Int)) = true := decide_eq_true (by omega)
                  have HLR := Lib.hid (HSTOP.out (by rw [HND.out, decide_eq_true hn0]; rfl))
                  clear HSTOP HGO HND hn0
                  go_wp2_with fail
                  refine CF.out.mono ?_
                  rintro e w5 ⟨rfl, rfl⟩
                  clear CF
                  go_wp2
                  go_ret2
                  rw [HR.out, ← HLR.out]
                  exact ⟨_, rfl, KOwn.mono ⟨_, HU.out⟩ hw1, HBW.out⟩
                · obtain rfl : nl = 0 := by omega
                  have CCH := Lib.hid (specChild_any _ lk pk wr (by omega) (fun x hx => Nat.le_trans (HFT.out x hx).1 (by unfold maxLen; omega)) (own_knots_at ⟨us2, HU.out⟩))
                  cases hcb : childB lk pk
                  · rw [hcb] at CCH
                    obtain ⟨hp2, hk2, hl2, hl3⟩ := HGO.out (by rw [HND.out, hcb]; rfl)
                    have HP2 := Lib.hid hp2
                    have HK2 := Lib.hid hk2
                    have CA := Lib.hid (fun wx => specAbove_any pk wx (by unfold maxLen; omega))
                    obtain ⟨q, hq⟩ : ∃ q, above pk = q := ⟨_, rfl⟩
                    rw [hq] at hab HP2 HK2 CA
                    have HFT2 := Lib.hid (HFT.out.drop (j := i))
                    have hcap2 := own_cap HU.out.2.1
                    have hil : i ≤ lk.length := by omega
                    have hil1 : i + 1 ≤ lk.length := by omega
                    have HTK := Lib.hid (show wr.drew.ownsRow w1.heap.size 50 2 (.slice (some ⟨g2, 0, none⟩) i cg2) i (kcells (lk.take i) (us2.take i)) by
                      have := own_take HU.out.2.1 hil
                      rw [kcells_take HU.out.1 i hil] at this
                      exact row_below this (Below.refl _ _).drew)
                    obtain ⟨A, hA, hsrc⟩ : ∃ A : Addr, (if cg2 = i + 1 then some (⟨g2, 0, none⟩ : Addr) else some ⟨g2, (i + 1) * 2, none⟩) = some A ∧ Hid (SrcAt wr.drew (.slice (some A) (lk.length - (i + 1)) (cg2 - (i + 1))) (lk.length - (i + 1)) (kcells (lk.drop (i + 1)) (us2.drop (i + 1)))) := by
                      by_cases h : cg2 = i + 1
                      · refine ⟨_, by rw [if_pos h], Lib.hid ⟨_, _, rfl, .inr ⟨_, rfl, fun j u hj => ?_⟩⟩⟩
                        rw [List.drop_of_length_le (by omega : lk.length ≤ i + 1)] at hj
                        simp [kcells] at hj
                      · exact ⟨_, by rw [if_neg h], Lib.hid ((knots_src HU.out rfl hil1 _).below (Below.refl _ _).drew)⟩
                    have HKL : Hid ((kcells (lk.drop (i + 1)) (us2.drop (i + 1))).length = (lk.length - (i + 1)) * 2) := Lib.hid (by rw [kcells_length _ _ (by simp [HU.out.1]), List.length_drop])
                    have HONE : Hid (∀ u ∈ kcells (lk.drop (i + 1)) (us2.drop (i + 1)), u.oneCell' = true) := Lib.hid (kcells_one _ _ (fun u hu => by
                      obtain ⟨j, hj, rfl⟩ := List.mem_iff_getElem.1 (List.mem_of_mem_drop hu)
                      obtain ⟨a, c, e⟩ := own_slice (HU.out.2.2.1 j (by rw [← HU.out.1]; exact hj) hj)
                      exact ⟨a, _, c, e⟩))
                    have HER := Lib.hid (fun (w5 : World) (v5 : Value) (hr5 : w5.ownsRow w1.heap.size 50 2 v5 (i + (lk.length - (i + 1))) (kcells (lk.take i) (us2.take i) ++ kcells (lk.drop (i + 1)) (us2.drop (i + 1)))) (hg5 : wr.drew.grownBy w5 (some g2)) => show KOwn w5 w1.heap.size v5 (dropK lk i) ∧ Below w.heap.size w w5 ∧ w1.heap.size ≤ w5.heap.size by
                      have hG : GrownL wr w5 [.slice (some ⟨g2, 0, none⟩) lk.length cg2] := (GrownL.below (Below.refl wr.heap.size wr).drew).trans (.grown (x := .slice (some ⟨g2, 0, none⟩) lk.length cg2) hg5 (by simp))
                      refine ⟨⟨_, HU.out.erase hG hi ?_⟩, HBW.out.trans (hG.toBelow (Nat.le_trans hw1 hww) (fun x hx b hb => by rw [List.mem_singleton.1 hx] at hb; cases hb; show w.heap.size ≤ g2; omega)), Nat.le_trans hww hG.size⟩
                      have e1 : (dropK lk i).length = i + (lk.length - (i + 1)) := by unfold dropK; simp; omega
                      rw [e1]
                      unfold dropK
                      rw [kcells_append _ _ _ _ (by simp [HU.out.1])]
                      exact hr5)
                    obtain ⟨i2, hi2, hz2, hy2, hq2⟩ := info_parts (P := Tryd.prog) (e := 50) (z := .agg #[.string ⟨#[]⟩, .slice none 0 0]) (size := 2) (bytes := 40) (by kernel_rfl)
                    have hB2 : w1.heap.size ≤ wr.drew.heap.size := hww
                    have hii : ((i : Int) + 1).toNat = i + 1 := by omega
                    have hw9 : IntKind.i64.wrap ((i : Int) + 1) = (i : Int) + 1 := by rw [IntKind.wrap_i64]; omega
                    have hi9 : (0 : Int) ≤ (i : Int) + 1 := by omega
                    have hi8 : (i : Int) + 1 ≤ (lk.length : Int) := by omega
                    have hi7 : i ≤ cg2 := by omega
                    have hm1 : m < gk := by omega
                    have hqm : q.size ≤ m := by omega
                    clear HSTOP HGO HND hn0 hcb hp2 hk2 hq HFT hm
                    go_wp2_with fail
                    refine CF.out.mono ?_
                    rintro e w5 ⟨rfl, rfl⟩
                    clear CF
                    go_wp2_with fail
                    refine CCH.out.mono ?_
                    rintro e w5 ⟨rfl, rfl⟩
                    clear CCH
                    go_wp2_with fail
                    refine wp_region_held_drew (S := fun _ => True) (by kernel_rfl) ?_ (fun hHeld => ?_)
                    · trivial
                    change wpAnyH _ _ _ _ _ 9 #[false, false, false, false, false, false, false, false, false] _ _
                    refine wpAnyH_take (i := 0) (v := ?_) rfl (by kernel_rfl) (by kernel_rfl) (by kernel_rfl) (fun _ _ _ h => h) (Or.inl ⟨by rfl, ?_⟩) (by assumption) ?_
                    rotate_left
                    · intro w hSw; (try dsimp only at hSw); go_simp; try with_reducible rfl
                    try simp only [Act.put, List.getElem_toArray, List.getElem_cons_succ, List.getElem_cons_zero, List.setIfInBounds_toArray, List.set_cons_zero, List.set_cons_succ]
                    refine wpAnyH_take (i := 1) (v := ?_) rfl (by kernel_rfl) (by kernel_rfl) (by kernel_rfl) (fun _ _ _ h => h) (Or.inl ⟨by rfl, ?_⟩) (by assumption) ?_
                    rotate_left
                    · intro w hSw; (try dsimp only at hSw); go_simp; try with_reducible rfl
                    try simp only [Act.put, List.getElem_toArray, List.getElem_cons_succ, List.getElem_cons_zero, List.setIfInBounds_toArray, List.set_cons_zero, List.set_cons_succ]
                    refine wpAnyH_take (i := 2) (v := ?_) rfl (by kernel_rfl) (by kernel_rfl) (by kernel_rfl) (fun _ _ _ h => h) (Or.inl ⟨by rfl, ?_⟩) (by assumption) ?_
                    rotate_left
                    · intro w hSw; (try dsimp only at hSw); go_simp; try with_reducible rfl
                    try simp only [Act.put, List.getElem_toArray, List.getElem_cons_succ, List.getElem_cons_zero, List.setIfInBounds_toArray, List.set_cons_zero, List.set_cons_succ]
                    refine wpAnyH_take (i := 3) (v := ?_) rfl (by kernel_rfl) (by kernel_rfl) (by kernel_rfl) (fun _ _ _ h => h) (Or.inl ⟨by rfl, ?_⟩) (by assumption) ?_
                    rotate_left
                    · intro w hSw; (try dsimp only at hSw); go_simp; try with_reducible rfl
                    try simp only [Act.put, List.getElem_toArray, List.getElem_cons_succ, List.getElem_cons_zero, List.setIfInBounds_toArray, List.set_cons_zero, List.set_cons_succ]
                    refine wpAnyH_take (i := 4) (v := ?_) rfl (by kernel_rfl) (by kernel_rfl) (by kernel_rfl) (fun _ _ _ h => h) (Or.inl ⟨by rfl, ?_⟩) (by assumption) ?_
                    rotate_left
                    · intro w hSw; (try dsimp only at hSw); go_simp; try with_reducible rfl
                    try simp only [Act.put, List.getElem_toArray, List.getElem_cons_succ, List.getElem_cons_zero, List.setIfInBounds_toArray, List.set_cons_zero, List.set_cons_succ]
                    refine wpAnyH_take (i := 5) (v := ?_) rfl (by kernel_rfl) (by kernel_rfl) (by kernel_rfl) (fun _ _ _ h => h) (Or.inl ⟨by rfl, ?_⟩) (by assumption) ?_
                    rotate_left
                    · intro w hSw; (try dsimp only at hSw); go_simp; try with_reducible rfl
                    try simp only [Act.put, List.getElem_toArray, List.getElem_cons_succ, List.getElem_cons_zero, List.setIfInBounds_toArray, List.set_cons_zero, List.set_cons_succ]
                    refine wpAnyH_take (i := 6) (v := ?_) rfl (by kernel_rfl) (by kernel_rfl) (by kernel_rfl) (fun _ _ _ h => h) (Or.inl ⟨by rfl, ?_⟩) (by assumption) ?_
                    rotate_left
                    · intro w hSw; (try dsimp only at hSw); go_simp; try with_reducible rfl
                    try simp only [Act.put, List.getElem_toArray, List.getElem_cons_succ, List.getElem_cons_zero, List.setIfInBounds_toArray, List.set_cons_zero, List.set_cons_succ]
                    refine wpAnyH_ready (rs := [7]) (by kernel_rfl) (by simp) (AllReadyH.cons rfl (fun K hK => ?_) AllReadyH.nil)
                    rw [if_pos (by rfl)]
                    refine wp_append_src (.tmp 93) (.tmp 97) 24 rfl w1.heap.size 50 i2 (.agg #[.string ⟨#[]⟩, .slice none 0 0]) 2 40 Tryd.underlying24 hi2 hz2 hy2 hq2 rfl (by decide) (.slice (some ⟨g2, 0, none⟩) i cg2) (.slice (some A) (lk.length - (i + 1)) (cg2 - (i + 1))) i (lk.length - (i + 1)) _ _ (by simp [Act.eval]) HTK.out (by simp [Act.eval, hA]) hsrc.out HKL.out HONE.out (by unfold maxLen; omega) (by omega) hB2 ?_; intro v5 w5 hr5 hg5 hv5; obtain ⟨k5, b5, s5⟩ := HER.out w5 v5 hr5 hg5; have K5 := Lib.hid k5; have B5 := Lib.hid b5; clear hr5 hg5 hv5 k5 b5
                    refine hK.out _ _ ?_ (fun hHeld => ?_)
                    · trivial
                    clear hK K
                    try simp only [Act.put, List.getElem_toArray, List.getElem_cons_succ, List.getElem_cons_zero, List.setIfInBounds_toArray, List.set_cons_zero, List.set_cons_succ]
                    refine wpAnyH_take (i := 8) (v := ?_) rfl (by kernel_rfl) (by kernel_rfl) (by kernel_rfl) (fun _ _ _ h => h) (Or.inl ⟨by rfl, ?_⟩) (by assumption) ?_
                    rotate_left
                    · intro w hSw; (try dsimp only at hSw); go_simp; try with_reducible rfl
                    try simp only [Act.put, List.getElem_toArray, List.getElem_cons_succ, List.getElem_cons_zero, List.setIfInBounds_toArray, List.set_cons_zero, List.set_cons_succ]
                    refine wpAnyH_done (by kernel_rfl) ?_ _
                    clear hHeld
                    go_wp2_with fail
                    refine (CA.out _).mono ?_
                    rintro e w6 ⟨rfl, rfl⟩
                    go_wp2
                    go_roundg m
                    case measure => exact hm1
                    case rel => exact ⟨dropK lk i, q, rfl, hqm, by omega, hl3, K5, HP2, B5, s5, HK2, HFT2⟩
                  · rw [hcb] at CCH
                    have HLR := Lib.hid (HSTOP.out (by rw [HND.out, hcb]; simp))
                    clear HSTOP HGO HND hn0 hcb
                    go_wp2_with fail
                    refine CF.out.mono ?_
                    rintro e w5 ⟨rfl, rfl⟩
                    clear CF
                    go_wp2_with fail
                    refine CCH.out.mono ?_
                    rintro e w5 ⟨rfl, rfl⟩
                    clear CCH
                    go_wp2
                    go_ret2
                    rw [HR.out, ← HLR.out]
                    exact ⟨_, rfl, KOwn.mono ⟨_, HU.out⟩ hw1, HBW.out⟩
    · have HR : Hid (withoutL l f id = (l, false)) := Lib.hid (by
        rw [HW.out, badW, decide_eq_true (by omega)]; rfl)
      obtain ⟨ft, hft⟩ : ∃ ft, find l f = ft := ⟨_, rfl⟩
      rw [hft] at HFD hat
      have hat2 : ft < 0 := by omega
      have g0 : decide (ft < 0) = true := decide_eq_true hat2
      clear HW hat hft
      go_enter Tryd.func10, Tryd.ntmps10
      go_wp2_with fail
      refine CT.out.mono ?_
      rintro e w1 ⟨rfl, hb1⟩
      have HB1 := Lib.hid hb1
      have hw1 := hb1.size
      have CC := Lib.hid (HCP.out w1 (HV.out.below hb1))
      clear hb1 CT HCP
      go_wp2_with fail
      refine CC.out.mono ?_
      rintro e w2 ⟨out, rfl, k2, hb2⟩
      have hw2 := hb2.size
      have HB3 := Lib.hid (below_end HB1.out hb2)
      have K3 := Lib.hid k2
      have HI3 := Lib.hid (HIN.out.below HB3.out)
      have CD := Lib.hid (HFD.out w2 (HV.out.below HB3.out))
      clear k2 hb2 CC HFD
      go_wp2_with fail
      refine CD.out.mono ?_
      rintro e w' ⟨rfl, rfl⟩
      clear CD
      go_wp2
      go_ret2
      rw [HR.out]
      exact ⟨_, rfl, K3.out.mono hw1, HB3.out⟩

end Go.Proofs.YtjbobnbbijemmaaDoor
