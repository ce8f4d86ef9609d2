/- Small texts, laid together. -/
import Derived.Test.YtmfbffhbgelnnaaGreatDoorZB8
import Derived.Test.YtmfbffhbgelnnaaGreatDoorZSTrie6
import Derived.Test.YtmfbffhbgelnnaaGreatDoorZB3
import Derived.Test.YtmfbffhbgelnnaaGreatDoorZSTrie2
import Derived.Test.YtmfbffhbgelnnaaGreatDoorZIMatN
import Derived.Test.YtmfbffhbgelnnaaGreatDoorZILinked
set_option linter.unusedSimpArgs false
set_option linter.unusedVariables false
/- The walk of the reference's IdsFor. -/
namespace Go.Proofs.YtmfbffhbgelnnaaGreatDoor
open Go.RowKit
set_option maxRecDepth 100000 in
set_option maxHeartbeats 3200000 in
theorem specIds_any (v : Value) (l : List KnotM) (t : ByteArray) (w : World) (hl : KSmall l) (hts : t.size ≤ 1048576) (hv : KnotsAt w v l) :
    Calls Tryz.prog 60 #[v, .string t] w fun e w' => ∃ u, e = .returned u ∧ w'.ownsRow w.heap.size 2 1 u (idsL l t).length (ints (idsL l t)) ∧ Below w.heap.size w w' := by
  have hA : Below w.heap.size w (w.alloc (.cells #[] 2)) := (Below.refl _ _).alloc (Nat.le_refl _) _
  have CT := Lib.hid (specTrieOk_any v l _ hl (hv.below hA))
  have hl1 := hl.1
  have HL := Lib.hid hl.2
  have HOW := Lib.hid (own_lit_empty w)
  have HA := Lib.hid hA
  obtain ⟨a, c, rfl, hc1, hc2, hc3⟩ := hv
  clear hl hA
  cases ht : trieB l
  · have HT : Hid (idsL l t = []) := Lib.hid (by rw [idsL, ht]; rfl)
    rw [ht] at CT
    clear ht hc3
    go_enter Tryz.func60, Tryz.ntmps60
    go_wp2_with fail
    refine CT.out.mono ?_
    rintro e w1 ⟨rfl, hb⟩
    have HB := Lib.hid (below_end HA.out hb)
    have HO := Lib.hid (row_below HOW.out hb)
    clear hb
    go_wp2
    go_ret
    rw [HT.out]
    exact ⟨_, rfl, HO.out, HB.out⟩
  · have hpos : 0 < l.length := by
      cases l with
      | nil => cases ht
      | cons => simp
    obtain ⟨b, o, rfl, hin⟩ : ∃ b o, a = some ⟨b, o, none⟩ ∧ KnotsIn w b o l := by
      rcases hc3 with h | h
      · subst h; simp at hpos
      · exact h
    have HTT := Lib.hid ht
    have HT : Hid (idsL l t = idsTo l t l.length) := Lib.hid (by rw [idsL, ht, idsTo, List.take_length]; rfl)
    have HIN := Lib.hid hin
    rw [ht] at CT
    clear ht hc3 hin
    go_enter Tryz.func60, Tryz.ntmps60
    go_wp2_with fail
    refine CT.out.mono ?_
    rintro e w1 ⟨rfl, hb⟩
    have HB := Lib.hid (below_end HA.out hb)
    have HO := Lib.hid (row_below HOW.out hb)
    clear hb CT HOW HA
    go_wp2
    go_loopw [5, 6] (fun s5 s6 wr => ∃ k : Nat, 1 ≤ k ∧ k ≤ l.length ∧ s6 = .int .i64 k ∧ Hid (wr.ownsRow w.heap.size 2 1 s5 (idsTo l t k).length (ints (idsTo l t k))) ∧ Hid (rises (idsTo l t k) = true) ∧ Hid (Below w.heap.size w wr)) (fun _ s6 _ => l.length - (intOf s6).toNat)
    case atStart => exact ⟨1, Nat.le_refl _, hpos, rfl, Lib.hid (by
      have e : idsTo l t 1 = [] := by unfold idsTo; rw [List.drop_of_length_le (by rw [List.length_take]; omega)]; rfl
      rw [e]; exact HO.out), Lib.hid (by
      have e : idsTo l t 1 = [] := by unfold idsTo; rw [List.drop_of_length_le (by rw [List.length_take]; omega)]; rfl
      rw [e]; rfl), HB⟩
    case round =>
      obtain ⟨k, hk1, hk, rfl, HOO, HRR, HBW⟩ := hrel
      by_cases hlt : k < l.length
      · have HNX := Lib.hid (idsTo_next (t := t) hlt hk1)
        have HKR := Lib.hid (fun x hx => (rises_pair.1 (knot_rises HTT.out hlt hk1)).1 x hx)
        have hsz := HL.out _ (List.getElem_mem hlt)
        have HIK := Lib.hid (HIN.out k hlt)
        obtain ⟨O, hO⟩ : ∃ O, idsTo l t k = O := ⟨_, rfl⟩
        obtain ⟨p, ids, hx⟩ : ∃ p ids, l[k] = (p, ids) := ⟨_, _, rfl⟩
        rw [hO] at HOO HRR HNX
        rw [hx] at HNX HKR hsz HIK
        have hps := hsz.1
        have his := hsz.2
        clear hO hx hsz
        obtain ⟨wo, hwo⟩ : ∃ wo : World, wo = wr := ⟨_, rfl⟩
        subst hwo
        have HP0 := Lib.hid HIK.out.1
        obtain ⟨u, hu0, hids0⟩ := HIK.out.2
        have hids2 := hids0
        obtain ⟨ua, uc, rfl, _, _, _⟩ := hids2
        have HU0 := Lib.hid hu0
        have HID0 := Lib.hid hids0
        have hbw : b < w.heap.size := World.block_lt_of_cell? _ _ hu0
        clear hu0 hids0 HIK
        have hsw := HBW.out.size
        cases hmb : matchB p t
        · have HN : Hid (idsTo l t (k + 1) = O) := Lib.hid (by rw [HNX.out, idsStep, hmb]; rfl)
          have CM := Lib.hid (fun wx => specMatches_any p t wx hps hts)
          rw [hmb] at CM
          clear hmb HNX
          go_wp2
          go_loopw [5, 7] (fun s5 s7 wr => s7 = .int .i64 0 ∧ Hid (wr.ownsRow w.heap.size 2 1 s5 O.length (ints O)) ∧ Hid (Below w.heap.size w wr)) (fun _ s7 _ => (intOf s7).toNat)
          case atStart => exact ⟨rfl, HOO, HBW⟩
          case round =>
            obtain ⟨rfl, HO2, HB2⟩ := hrel
            have hp := (HB2.out.cell hbw).trans HP0.out
            have hu := (HB2.out.cell hbw).trans HU0.out
            by_cases h0 : 0 < ids.length
            · go_wp2_with (go_at_call 96; refine (CM.out _).mono ?_; rintro e w3 ⟨rfl, hb3⟩; have HB3 := Lib.hid (below_end HB2.out hb3); have HO3 := Lib.hid (row_below HO2.out hb3); clear hb3)
              go_roundw
              case rel => exact ⟨k + 1, by omega, by omega, by go_num, by rw [HN.out]; exact HO3, by rw [HN.out]; exact HRR, HB3⟩
              case measure => simp [intOf]; omega
            · go_wp2
              go_roundw
              case rel => exact ⟨k + 1, by omega, by omega, by go_num, by rw [HN.out]; exact HO2, by rw [HN.out]; exact HRR, HB2⟩
              case measure => simp [intOf]; omega
        · have HN : Hid (idsTo l t (k + 1) = ids.foldl addId O) := Lib.hid (by rw [HNX.out, idsStep, hmb]; rfl)
          have CM := Lib.hid (fun wx => specMatches_any p t wx hps hts)
          rw [hmb] at CM
          clear hmb HNX
          go_wp2
          go_loopw [5, 7] (fun s5 s7 wr => ∃ j : Nat, j ≤ ids.length ∧ s7 = .int .i64 j ∧ Hid (wr.ownsRow w.heap.size 2 1 s5 ((ids.take j).foldl addId O).length (ints ((ids.take j).foldl addId O))) ∧ Hid (rises ((ids.take j).foldl addId O) = true) ∧ Hid (Below w.heap.size w wr)) (fun _ s7 _ => ids.length - (intOf s7).toNat)
          case atStart => exact ⟨0, Nat.zero_le _, rfl, HOO, HRR, HBW⟩
          case round =>
            obtain ⟨j, hj, rfl, HO2, HR2, HB2⟩ := hrel
            have hp := (HB2.out.cell hbw).trans HP0.out
            have hu := (HB2.out.cell hbw).trans HU0.out
            by_cases hjl : j < ids.length
            · have HQ := Lib.hid (show (ids.take (j + 1)).foldl addId O = addId ((ids.take j).foldl addId O) ids[j] by rw [List.take_succ_eq_append_getElem hjl, List.foldl_append]; rfl)
              have hxo := HKR.out _ (List.getElem_mem hjl)
              obtain ⟨X, hX⟩ : ∃ X, (ids.take j).foldl addId O = X := ⟨_, rfl⟩
              rw [hX] at HO2 HR2 HQ
              have HXR := Lib.hid (addId_rises HR2.out hxo)
              have hXl := rises_short HR2.out
              obtain ⟨ib, io, rfl, hii⟩ : ∃ ib io, ua = some ⟨ib, io, none⟩ ∧ IntsIn w ib io ids := by
                obtain ⟨_, _, e, _, _, h⟩ := HID0.out
                cases e
                rcases h with h | h
                · rw [h] at hjl; simp at hjl
                · exact h
              have hicell0 := hii j hjl
              have hib : ib < w.heap.size := World.block_lt_of_cell? _ _ hicell0
              have hic := (HB2.out.cell hib).trans hicell0
              obtain ⟨x, hx⟩ : ∃ x, ids[j] = x := ⟨_, rfl⟩
              rw [hx] at hic hicell0 HQ HXR
              have HIC0 := Lib.hid hicell0
              obtain ⟨xa, xc, hs5⟩ := own_slice HO2.out
              subst hs5
              clear hii hx hX hxo hicell0
              cases hhs : hasId X x
              · have HQ2 : Hid ((ids.take (j + 1)).foldl addId O = into X x) := Lib.hid (by rw [HQ.out, addId, hhs]; rfl)
                have HXR2 : Hid (rises (into X x) = true) := Lib.hid (by have := HXR.out; rw [addId, hhs] at this; exact this)
                have HHS := Lib.hid hhs
                clear hhs HQ HXR
                go_wp2_with (go_at_call 96; refine (CM.out _).mono ?_; rintro e w3 ⟨rfl, hb3⟩; have HB3 := Lib.hid (below_end HB2.out hb3); have HO3 := Lib.hid (row_below HO2.out hb3); have hu3 := (HB3.out.cell hbw).trans HU0.out; have hic3 := (HB3.out.cell hib).trans HIC0.out; clear hb3)
                refine (specHas_any _ X x w3 (by omega) (own_ints_at HO3.out)).mono ?_
                rw [HHS.out]
                rintro e w4 ⟨rfl, rfl⟩
                go_wp2_with fail
                refine (specInto_any _ X x w.heap.size w4 (by omega) HO3.out).mono ?_
                rintro e w5 ⟨u, rfl, ho, hb5⟩
                have HO5 := Lib.hid (own_mono ho HB3.out.size)
                have HB5 := Lib.hid (below_end HB3.out hb5)
                clear ho hb5
                go_wp2
                go_roundw
                case rel => exact ⟨j + 1, by omega, by go_num, by rw [HQ2.out, into_length]; exact HO5, by rw [HQ2.out]; exact HXR2, HB5⟩
                case measure => simp [intOf]; omega
              · have HQ2 : Hid ((ids.take (j + 1)).foldl addId O = X) := Lib.hid (by rw [HQ.out, addId, hhs]; rfl)
                have HHS := Lib.hid hhs
                clear hhs HQ HXR
                go_wp2_with (go_at_call 96; refine (CM.out _).mono ?_; rintro e w3 ⟨rfl, hb3⟩; have HB3 := Lib.hid (below_end HB2.out hb3); have HO3 := Lib.hid (row_below HO2.out hb3); have hu3 := (HB3.out.cell hbw).trans HU0.out; have hic3 := (HB3.out.cell hib).trans HIC0.out; clear hb3)
                refine (specHas_any _ X x w3 (by omega) (own_ints_at HO3.out)).mono ?_
                rw [HHS.out]
                rintro e w4 ⟨rfl, rfl⟩
                go_wp2
                go_roundw
                case rel => exact ⟨j + 1, by omega, by go_num, by rw [HQ2.out]; exact HO3, by rw [HQ2.out]; exact HR2, HB3⟩
                case measure => simp [intOf]; omega
            · obtain rfl : j = ids.length := by omega
              rw [List.take_length] at HO2 HR2
              go_wp2
              go_roundw
              case rel => exact ⟨k + 1, by omega, by omega, by go_num, by rw [HN.out]; exact HO2, by rw [HN.out]; exact HR2, HB2⟩
              case measure => simp [intOf]; omega
      · obtain rfl : k = l.length := by omega
        go_wp2
        go_ret
        rw [HT.out]
        exact ⟨_, rfl, HOO.out, HBW.out⟩


end Go.Proofs.YtmfbffhbgelnnaaGreatDoor

/- Plain mathematics of chapter 3: what the tree tells of a topic is what the list of knots does. -/
namespace Go.Proofs.YtmfbffhbgelnnaaGreatDoor

/-- A # is the last part of a path. -/
def HashLast (T : List NodeM) : Prop := ∀ z ∈ T, ∀ (p : List (List UInt8)) (a : List UInt8) (q : List (List UInt8)), z.path = p ++ a :: q → isHash (bts a) = true → q = []

theorem partC_word {p q : ByteArray} (hq : isWord q = true) : partC p q = (isPlus p || alike p q) := by
  unfold partC
  cases h : isPlus p
  · simp
  · rw [hq]; simp

theorem matchP_cons {p : ByteArray} {ps r : List ByteArray} (h : isHash p = true) : matchP (p :: ps) r = true := by
  cases r <;> simp [matchP, h]

/-- What is told below a node. -/
theorem matN_mem {T : List NodeM} (hT : TreeOk T) (hH : HashLast T) : ∀ (n : Nat) (x : NodeM), x ∈ T → (∀ y ∈ T, x.path <+: y.path → y.path.length ≤ x.path.length + n) → ∀ (r : List ByteArray), (∀ t ∈ r, isWord t = true) → ∀ i : Int,
    i ∈ matN T n x r ↔ ∃ z ∈ T, ∃ q, z.path = x.path ++ q ∧ matchP (q.map bts) r = true ∧ i ∈ z.ids
  | n, x, hx, hd, r, hr, i => by
    have hbase : i ∈ baseM x r ↔ r = [] ∧ i ∈ x.ids := by
      unfold baseM; cases r <;> simp
    have hself : ∀ z ∈ T, z.path = x.path ++ [] → z = x := fun z hz e => hT.same hz hx (by rw [e, List.append_nil])
    cases n with
    | zero =>
      rw [matN, hbase]
      constructor
      · rintro ⟨rfl, hi⟩; exact ⟨x, hx, [], by simp, rfl, hi⟩
      · rintro ⟨z, hz, q, e, hm, hi⟩
        have hq : q = [] := by
          have := hd z hz (by rw [e]; exact List.prefix_append _ _)
          rw [e, List.length_append] at this
          exact List.length_eq_zero_iff.1 (by omega)
        subst hq
        rw [hself z hz e] at hi
        cases r with
        | nil => exact ⟨rfl, hi⟩
        | cons t r => simp [matchP] at hm
    | succ n =>
      have hdk : ∀ c ∈ kids T x.path, ∀ z ∈ T, c.path <+: z.path → z.path.length ≤ c.path.length + n := fun c hc z hz hp => by
        have h1 := hd z hz (List.IsPrefix.trans (by rw [(kids_mem.1 hc).2]; exact List.prefix_append _ _) hp)
        rw [(kids_mem.1 hc).2]; simp; omega
      rw [matN, List.mem_append, hbase, List.mem_flatMap]
      constructor
      · rintro (⟨rfl, hi⟩ | ⟨c, hc, hi⟩)
        · exact ⟨x, hx, [], by simp, rfl, hi⟩
        · have IH := matN_mem hT hH n c (kids_mem.1 hc).1 (hdk c hc)
          have ec := (kids_mem.1 hc).2
          unfold kidM at hi
          cases hh : isHash (bts c.last)
          · rw [hh] at hi
            cases r with
            | nil => simp at hi
            | cons t r =>
              simp only [Bool.false_eq_true, if_false] at hi
              cases hp : partC (bts c.last) t
              · rw [hp] at hi; simp at hi
              · rw [hp, if_pos rfl] at hi
                obtain ⟨z, hz, q, e, hm, hi⟩ := (IH r (fun u hu => hr u (List.mem_cons_of_mem _ hu)) i).1 hi
                rw [partC_word (hr t (by simp))] at hp
                refine ⟨z, hz, c.last :: q, by rw [e, ec]; simp, ?_, hi⟩
                rw [List.map_cons, matchP, hm, hp]; simp
          · rw [hh, if_pos rfl] at hi
            obtain ⟨z, hz, q, e, hm, hi⟩ := (IH [] (fun u hu => by cases hu) i).1 hi
            refine ⟨z, hz, c.last :: q, by rw [e, ec]; simp, ?_, hi⟩
            rw [List.map_cons]; exact matchP_cons hh
      · rintro ⟨z, hz, q, e, hm, hi⟩
        cases q with
        | nil =>
          left
          rw [hself z hz e] at hi
          cases r with
          | nil => exact ⟨rfl, hi⟩
          | cons t r => simp [matchP] at hm
        | cons a q =>
          right
          obtain ⟨c, hcT, ec0⟩ := hT.front (z.path.length - (x.path.length + 1)) (x.path.length + 1) z hz (by rw [e]; simp)
          have ec : c.path = x.path ++ [a] := by rw [ec0, e, List.take_length_add_append]; rfl
          have hc := kids_snoc hcT ec
          have hl := last_snoc ec
          have IH := matN_mem hT hH n c hcT (hdk c hc)
          have e2 : z.path = c.path ++ q := by rw [e, ec]; simp
          refine ⟨c, hc, ?_⟩
          unfold kidM
          rw [hl]
          cases hh : isHash (bts a)
          · rw [List.map_cons] at hm
            cases r with
            | nil => simp [matchP, hh] at hm
            | cons t r =>
              rw [matchP, hh, Bool.false_or, Bool.and_eq_true] at hm
              simp only [Bool.false_eq_true, if_false]
              rw [partC_word (hr t (by simp)), hm.1, if_pos rfl]
              exact (IH r (fun u hu => hr u (List.mem_cons_of_mem _ hu)) i).2 ⟨z, hz, q, e2, hm.2, hi⟩
          · rw [if_pos rfl]
            have hq : q = [] := hH z hz x.path a q e hh
            subst hq
            exact (IH [] (fun u hu => by cases hu) i).2 ⟨z, hz, [], e2, rfl, hi⟩

theorem foldl_mem : ∀ (ids out : List Int) (i : Int), i ∈ ids.foldl addId out ↔ i ∈ out ∨ i ∈ ids
  | [], out, i => by simp
  | x :: ids, out, i => by
    rw [List.foldl_cons, foldl_mem ids, addId_mem, List.mem_cons]
    constructor
    · rintro ((h | h) | h)
      · exact .inr (.inl h)
      · exact .inl h
      · exact .inr (.inr h)
    · rintro (h | h | h)
      · exact .inl (.inr h)
      · exact .inl (.inl h)
      · exact .inr h

theorem steps_mem (t : ByteArray) : ∀ (l : List KnotM) (out : List Int) (i : Int), i ∈ l.foldl (idsStep t) out ↔ i ∈ out ∨ ∃ k ∈ l, matchB k.1 t = true ∧ i ∈ k.2
  | [], out, i => by simp
  | x :: l, out, i => by
    rw [List.foldl_cons, steps_mem t l]
    unfold idsStep
    cases h : matchB x.1 t
    · simp [h]
    · rw [if_pos rfl, foldl_mem]
      simp [h, or_assoc]

/-- The numbers of a topic. -/
theorem idsL_mem {l : List KnotM} {t : ByteArray} (h : trieB l = true) (i : Int) : i ∈ idsL l t ↔ ∃ k ∈ l.drop 1, matchB k.1 t = true ∧ i ∈ k.2 := by
  rw [idsL, h, if_pos rfl, steps_mem]; simp


/-- In a filter a # is the last part. -/
theorem filter_hash {s : ByteArray} (h : filterP (parts s 47) = true) {p q : List (List UInt8)} {a : List UInt8} (e : pth s = p ++ a :: q) (ha : isHash (bts a) = true) : q = [] := by
  rw [(filter_good h).1] at e
  have hl := congrArg List.length e
  rw [List.length_map, List.length_append, List.length_cons] at hl
  have hj : p.length < (parts s 47).length := by omega
  have ea : (parts s 47)[p.length].data.toList = a := by
    have : ((parts s 47).map (·.data.toList))[p.length]'(by rw [List.length_map]; exact hj) = a := by
      simp only [e]; rw [List.getElem_append_right (Nat.le_refl _)]; simp
    rw [List.getElem_map] at this; exact this
  cases hq : q with
  | nil => rfl
  | cons b q2 =>
    have hb : partF (parts s 47)[p.length] (decide (p.length + 1 = (parts s 47).length)) = false := by
      have hne : decide (p.length + 1 = (parts s 47).length) = false := decide_eq_false (by rw [hl, hq]; simp)
      rw [hne]
      unfold isHash at ha
      rw [beq_iff_eq, Lib.toList_data, bts_list] at ha
      rw [ha] at ea
      have e35 : (parts s 47)[p.length].toList = [35] := by rw [Lib.toList_data]; exact ea
      have hw : isWord (parts s 47)[p.length] = false := by
        unfold isWord
        rw [show (parts s 47)[p.length].data.toList = [35] from ea]; rfl
      unfold partF
      rw [hw, e35]; rfl
    rw [filterP_bad hj hb] at h; cases h

/-- What the program gathers has the numbers that the reference tells. -/
theorem matN_ids {l : List KnotM} {T : List NodeM} {x : NodeM} {t : ByteArray} (hl : trieB l = true) (hT : TreeOk T) (hk : T.map keyOf = l.map keyK) (hx : x ∈ T) (hx0 : x.path = []) (ht : topicP (parts t 47) = true) (i : Int) :
    i ∈ matN T 6 x (parts t 47) ↔ i ∈ idsL l t := by
  have hroot : ∀ j (hj : j < l.length), j = 0 → pth l[j].1 = [] ∧ l[j].2 = [] := fun j hj e => by
    subst e
    have h0 := trie_head hl
    cases l with
    | nil => simp at hj
    | cons a l =>
      rw [headOk, Bool.and_eq_true, beq_iff_eq, list_toList, List.isEmpty_iff] at h0
      exact ⟨by simp [pth, h0.1], h0.2⟩
  have hfil : ∀ k ∈ l, pth k.1 ≠ [] → filterP (parts k.1 47) = true := fun k hk2 hne => by
    obtain ⟨j, hj, rfl⟩ := List.mem_iff_getElem.1 hk2
    by_cases h1 : 1 ≤ j
    · exact (trie_at hl hj h1).2.1
    · exact absurd (hroot j hj (by omega)).1 hne
  have hH : HashLast T := fun z hz p a q e ha => by
    obtain ⟨k, hk2, hkp, _⟩ := key_mem' hk hz
    exact filter_hash (hfil k hk2 (by rw [← hkp, e]; simp)) (by rw [← hkp]; exact e) ha
  have hd : ∀ y ∈ T, x.path <+: y.path → y.path.length ≤ x.path.length + 6 := fun y hy _ => by
    obtain ⟨k, hk2, hkp, _⟩ := key_mem' hk hy
    rw [hkp]
    by_cases h0 : pth k.1 = []
    · rw [h0]; simp
    · have := pth_len (hfil k hk2 h0); omega
  have hw : ∀ u ∈ parts t 47, isWord u = true := by
    rw [topicP, Bool.and_eq_true, List.all_eq_true] at ht; exact ht.2
  have hwpos := parts_pos t 47
  rw [matN_mem hT hH 6 x hx hd _ hw, idsL_mem hl]
  constructor
  · rintro ⟨z, hz, q, e, hm, hi⟩
    rw [hx0, List.nil_append] at e
    obtain ⟨k, hk2, hkp, hki⟩ := key_mem' hk hz
    have hne : pth k.1 ≠ [] := by
      rw [← hkp, e]
      intro h0; subst h0
      cases hp : parts t 47 with
      | nil => rw [hp] at hwpos; simp at hwpos
      | cons => rw [hp] at hm; simp [matchP] at hm
    have hf := hfil k hk2 hne
    refine ⟨k, ?_, ?_, by rw [← hki]; exact hi⟩
    · obtain ⟨j, hj, rfl⟩ := List.mem_iff_getElem.1 hk2
      have h1 : 1 ≤ j := by
        rcases Nat.lt_or_ge 0 j with h | h
        · exact h
        · exact absurd (hroot j hj (by omega)).1 hne
      exact List.mem_iff_getElem.2 ⟨j - 1, by rw [List.length_drop]; omega, by rw [List.getElem_drop]; congr 1; omega⟩
    · unfold matchB
      rw [hf, ht]
      have e2 : q.map bts = parts k.1 47 := lists_ext (by
        rw [List.map_map, ← (filter_good hf).1, ← hkp, e]
        conv => rhs; rw [← List.map_id q]
        rfl)
      rw [← e2, hm]; rfl
  · rintro ⟨k, hk2, hm, hi⟩
    have hkl : k ∈ l := List.mem_of_mem_drop hk2
    unfold matchB at hm
    rw [Bool.and_eq_true, Bool.and_eq_true] at hm
    obtain ⟨z, hz, hzp, hzi⟩ := key_mem hk hkl
    refine ⟨z, hz, pth k.1, by rw [hx0, hzp]; rfl, ?_, by rw [hzi]; exact hi⟩
    have e2 : (pth k.1).map bts = parts k.1 47 := lists_ext (by
      rw [List.map_map, (filter_good hm.1.1).1]
      conv => rhs; rw [← List.map_id ((parts k.1 47).map _)]
      rfl)
    rw [e2]; exact hm.2

end Go.Proofs.YtmfbffhbgelnnaaGreatDoor

/- The walk of impl.IdsFor. -/
namespace Go.Proofs.YtmfbffhbgelnnaaGreatDoor
open Go.RowKit Go.Sort

theorem flatMap_le {α : Type} (l : List α) (f g : α → List Int) (h : ∀ a ∈ l, (f a).length ≤ (g a).length) : (l.flatMap f).length ≤ (l.flatMap g).length := by
  induction l with
  | nil => simp
  | cons a l ih =>
    rw [List.flatMap_cons, List.flatMap_cons, List.length_append, List.length_append]
    have := h a (by simp)
    have := ih (fun b hb => h b (List.mem_cons_of_mem _ hb))
    omega

/-- No node's numbers are told twice. -/
theorem matN_len {T : List NodeM} (hT : TreeOk T) (hF : ∀ y ∈ T, Fine y.path) : ∀ (n : Nat) (x : NodeM), x ∈ T → ∀ r, (matN T n x r).length ≤ ((sub T x.path).flatMap (·.ids)).length
  | n, x, hx, r => by
    have hb : (baseM x r).length ≤ x.ids.length := by unfold baseM; split <;> simp
    rw [sub_cons hT hF hx, List.flatMap_cons, List.length_append]
    cases n with
    | zero => rw [matN]; omega
    | succ n =>
      rw [matN, List.length_append, List.flatMap_assoc]
      have := flatMap_le (kids T x.path) (kidM (matN T n) r) (fun c => (sub T c.path).flatMap (·.ids)) (fun c hc => by
        have IH := matN_len hT hF n c (kids_mem.1 hc).1
        unfold kidM
        split
        · exact IH []
        · split
          · simp
          · split
            · exact IH _
            · simp)
      omega

theorem total_len (T : List NodeM) (h : ∀ y ∈ T, y.ids.length ≤ 100) : (T.flatMap (·.ids)).length ≤ T.length * 100 := by
  induction T with
  | nil => simp
  | cons a T ih =>
    rw [List.flatMap_cons, List.length_append, List.length_cons]
    have := h a (by simp)
    have := ih (fun b hb => h b (List.mem_cons_of_mem _ hb))
    omega

theorem sorted_of (l : List Int) : (l.mergeSort fun x y => decide (x ≤ y)).Pairwise (· ≤ ·) := by
  have := List.pairwise_mergeSort (le := fun x y : Int => decide (x ≤ y)) (fun a b c h1 h2 => by simp at *; omega) (fun a b => by simp; omega) l
  exact this.imp (fun h => by simpa using h)

theorem sort_mem (l : List Int) (x : Int) : x ∈ (l.mergeSort fun x y => decide (x ≤ y)) ↔ x ∈ l := (List.mergeSort_perm l _).mem_iff

/-- Gathered, sorted, without what is alike: what the reference tells. -/
theorem ids_final {M I : List Int} (hI : rises I = true) (h : ∀ i, i ∈ M ↔ i ∈ I) : Lib.compact (M.mergeSort fun x y => decide (x ≤ y)) = I := by
  have hm : ∀ i, i ∈ Lib.compact (M.mergeSort fun x y => decide (x ≤ y)) ↔ i ∈ I := fun i => by rw [compact_mem, sort_mem, h]
  refine rises_ext (rises_pair.2 ⟨fun x hx => (rises_pair.1 hI).1 x ((hm x).1 hx), compact_rises (sorted_of M)⟩) hI hm

theorem idsL_none {l : List KnotM} {t : ByteArray} (h : topicP (parts t 47) = false) : idsL l t = [] := by
  cases e : trieB l
  · rw [idsL, e]; rfl
  · rw [List.eq_nil_iff_forall_not_mem]
    intro i hi
    obtain ⟨k, _, hm, _⟩ := (idsL_mem e i).1 hi
    rw [matchB, h] at hm; simp at hm

set_option maxRecDepth 100000 in
set_option maxHeartbeats 3200000 in
theorem implIds_any (v : Value) (l : List KnotM) (t : ByteArray) (m : Int) (w : World) (hl : KSmall l) (hts : t.size ≤ 1048576) (hv : KnotsAt w v l) (hm : w.cell? ⟨0, 0, none⟩ = some (.int .i64 m)) :
    Calls Tryz.prog 61 #[v, .string t] w fun e w' => ∃ u, e = .returned u ∧ w'.ownsRow w.heap.size 2 1 u (idsL l t).length (ints (idsL l t)) ∧ Below w.heap.size w w' := by
  have CL := Lib.hid (linked_any v l m w hl hv hm)
  have hl1 := hl.1
  have HM := Lib.hid hm
  obtain ⟨a, c, rfl, _, _, _⟩ := hv
  clear hm hl
  go_enter Tryz.func61, Tryz.ntmps61
  go_wp2_with fail
  refine CL.out.mono ?_
  rintro e w1 ⟨hL, hb1⟩
  have HB1 := Lib.hid hb1
  clear CL
  rcases hL with ⟨ht, rfl⟩ | ⟨ht, T, x, rfl, hx, hx0, hT, hN, hk⟩
  · have HT : Hid (idsL l t = []) := Lib.hid (by rw [idsL, ht]; rfl)
    clear ht hb1
    go_wp2
    go_ret
    rw [HT.out]
    exact ⟨_, rfl, World.ownsRow_nil _ _ _ _, HB1.out⟩
  · have CT := Lib.hid (implTopic_any t m w1 hts ((hb1.cell (World.block_lt_of_cell? _ _ HM.out)).trans HM.out))
    have HN1 := Lib.hid hN
    have HTT := Lib.hid hT
    have HK := Lib.hid hk
    have HTB := Lib.hid ht
    have HX := Lib.hid hx
    have HX0 := Lib.hid hx0
    clear ht hb1 hN hT hk hx hx0
    cases htp : topicP (parts t 47)
    · have HT : Hid (idsL l t = []) := Lib.hid (idsL_none htp)
      rw [htp] at CT
      clear htp
      go_wp2_with (go_at_call 98; refine CT.out.mono ?_; rintro e w2 ⟨rfl, hb2⟩; have HB2 := Lib.hid (below_end HB1.out hb2); clear hb2)
      go_ret
      rw [HT.out]
      exact ⟨_, rfl, World.ownsRow_nil _ _ _ _, HB2.out⟩
    · rw [htp] at CT
      have HTP := Lib.hid htp
      clear htp
      go_wp2_with (go_at_call 98; refine CT.out.mono ?_; rintro e w2 ⟨rfl, hb2⟩; have HB2 := Lib.hid (below_end HB1.out hb2); have HN2 := Lib.hid (HN1.out.below hb2); clear hb2)
      refine (implParts_any t m w2 hts ((HB2.out.cell (World.block_lt_of_cell? _ _ HM.out)).trans HM.out)).mono ?_
      rintro e w3 ⟨pv, rfl, hp, hb3⟩
      have HB3 := Lib.hid (below_end HB2.out hb3)
      have HN3 := Lib.hid (HN2.out.below hb3)
      have hpp := parts_pos t 47
      obtain ⟨g, cap, rfl, hg1, hg2, hcell, _⟩ := row_open hp hpp
      have hcapp : (parts t 47).length ≤ cap := own_cap hp
      have HPA : Hid (PartsAt w3 (.slice (some ⟨g, 0, none⟩) (parts t 47).length cap) (parts t 47)) := Lib.hid ⟨_, _, rfl, hcapp, .inr ⟨g, 0, rfl, fun j h => by rw [Nat.zero_add]; exact hcell j h⟩⟩
      have hTl : T.length ≤ 1048576 := by
        have := congrArg List.length HK.out
        rw [List.length_map, List.length_map] at this
        omega
      have hroot : ∀ j (hj : j < l.length), ¬ 1 ≤ j → pth l[j].1 = [] ∧ l[j].2 = [] := fun j hj e => by
        obtain rfl : j = 0 := by omega
        have h0 := trie_head HTB.out
        cases l with
        | nil => simp at hj
        | cons a l =>
          rw [headOk, Bool.and_eq_true, beq_iff_eq, list_toList, List.isEmpty_iff] at h0
          exact ⟨by simp [pth, h0.1], h0.2⟩
      have hfine : ∀ y ∈ T, Fine y.path ∧ y.ids.length ≤ 100 ∧ y.path.length ≤ 6 := fun y hy => by
        obtain ⟨k, hk2, hkp, hki⟩ := key_mem' HK.out hy
        obtain ⟨j, hj, rfl⟩ := List.mem_iff_getElem.1 hk2
        by_cases h1 : 1 ≤ j
        · have h2 := trie_at HTB.out hj h1
          exact ⟨by rw [hkp]; exact filter_fine h2.2.1, by rw [hki]; exact rises_short h2.2.2.1, by rw [hkp]; exact pth_len h2.2.1⟩
        · have h2 := hroot j hj h1
          exact ⟨(by rw [hkp, h2.1]; intro p hp; cases hp), (by rw [hki, h2.2]; simp), (by rw [hkp, h2.1]; simp)⟩
      have hlen : (matN T 6 x (parts t 47)).length ≤ 104857600 := by
        have h1 := matN_len HTT.out (fun y hy => (hfine y hy).1) 6 x HX.out (parts t 47)
        rw [HX0.out, sub_root] at h1
        have h2 := total_len T (fun y hy => (hfine y hy).2.1)
        omega
      have CM := Lib.hid (matching_any T w3 w.heap.size HN3 (by omega) 6 x HX.out (fun y hy _ => by rw [HX0.out]; exact (hfine y hy).2.2) w3 (.slice none 0 0) _ [] (parts t 47) (Below.refl _ _) (World.ownsRow_nil _ _ _ _) HPA.out (by simp; omega))
      have HFI := Lib.hid (fun i => matN_ids (x := x) HTB.out HTT.out HK.out HX.out HX0.out HTP.out i)
      obtain ⟨M, hMM⟩ : ∃ M, matN T 6 x (parts t 47) = M := ⟨_, rfl⟩
      rw [hMM] at CM HFI hlen
      rw [List.nil_append] at CM
      have HFF := Lib.hid (ids_final (M := M) (idsL_rises (l := l) (t := t)) HFI.out)
      clear hMM hfine hroot hp hb3 hcell
      go_wp2_with fail
      refine CM.out.mono ?_
      rintro e w4 ⟨u, rfl, ho, hb4⟩
      have HB4 := Lib.hid (HB3.out.trans (hb4.mono HB3.out.size))
      have hs3 := HB3.out.size
      have hs4 := hb4.size
      rcases ho.2 with ⟨hu, h0⟩ | ⟨gu, cu, cur, hu, hgu, hh, _⟩
      · subst hu
        have HI : Hid (idsL l t = []) := Lib.hid (by
          rw [List.eq_nil_iff_forall_not_mem]
          intro i hi
          have := (HFI.out i).2 hi
          rw [List.length_eq_zero_iff.1 h0] at this
          cases this)
        clear ho hb4 h0 CM
        go_wp2_with fail
        refine (Tryz.slices_Sort_int_none none 0 w4).mono ?_
        rintro e w' ⟨rfl, rfl⟩
        go_wp2_with fail
        refine (Tryz.slices_Compact_int_empty none 0 w').mono ?_
        rintro e w'' ⟨rfl, rfl⟩
        go_wp2
        go_ret
        rw [HI.out]
        exact ⟨_, rfl, World.ownsRow_nil _ _ _ _, HB4.out⟩
      · subst hu
        have HO := Lib.hid ho
        have hgw := (Array.getElem?_eq_some_iff.1 hh).1
        have HHo := Lib.hid (own_holds ho)
        have hcu : M.length ≤ cu := own_cap ho
        obtain ⟨S, hS⟩ : ∃ S, (M.mergeSort fun x y => decide (x ≤ y)) = S := ⟨_, rfl⟩
        have hSl : S.length = M.length := by rw [← hS, List.length_mergeSort]
        have CS := Lib.hid (Tryz.slices_Sort_int gu 0 cu M w4 HHo.out hgw (by omega))
        rw [hS] at CS HFF
        have HSL := Lib.hid hSl
        clear ho hb4 hh CM hS hSl HFI
        go_wp2_with fail
        refine CS.out.mono ?_
        rintro e w5 ⟨rfl, q5, os5, e5⟩
        have h5 := own_putRow HO.out HSL.out e5 M.length (Nat.le_refl _)
        rw [List.take_of_length_le (by rw [HSL.out]; exact Nat.le_refl _)] at h5
        have HO5 := Lib.hid h5.1
        have HB5 := Lib.hid (HB4.out.grown h5.2 (by omega) (fun j hj => by cases hj; omega))
        have CC := Lib.hid (Tryz.slices_Compact_int gu 0 cu S w5 (own_holds h5.1) (by rw [HSL.out]; omega) (by rw [HSL.out]; exact hcu))
        rw [HFF.out, HSL.out] at CC
        have hle : (idsL l t).length ≤ M.length := by
          rw [← HFF.out, ← HSL.out]
          unfold Lib.compact Lib.compactUpTo
          rw [List.length_map]
          exact Nat.le_trans (List.length_filter_le _ _) (by simp)
        clear e5 h5 CS
        go_wp2_with fail
        refine CC.out.mono ?_
        rintro e w6 ⟨rfl, q6, e6⟩
        have h6 := own_putRow (w' := w6) (os := #[]) (q := q6) HO5.out (l' := idsL l t ++ List.replicate (M.length - (idsL l t).length) 0) (by rw [List.length_append, List.length_replicate]; omega) (by rw [grow_none]; exact e6) (idsL l t).length hle
        rw [List.take_left] at h6
        have HO6 := Lib.hid h6.1
        have HB6 := Lib.hid (HB5.out.grown h6.2 HB5.out.size (fun j hj => by cases hj; omega))
        clear e6 h6 CC
        go_wp2
        go_ret
        exact ⟨_, rfl, own_mono HO6.out hs3, HB6.out⟩

end Go.Proofs.YtmfbffhbgelnnaaGreatDoor
