/- Small texts, laid together. -/
import Derived.Test.YtcpoodhbakkmcaaGreatDoorZB2
import Derived.Test.YtcpoodhbakkmcaaGreatDoorZB3
import Derived.Test.YtcpoodhbakkmcaaGreatDoorZB4
import Derived.Test.YtcpoodhbakkmcaaGreatDoorZSTrie8
import Derived.Test.YtcpoodhbakkmcaaGreatDoorZTrieB
import Derived.Test.YtcpoodhbakkmcaaGreatDoorZB6
set_option linter.unusedSimpArgs false
set_option linter.unusedVariables false
/- The walks of the reference's draws of tries. -/
namespace Go.Proofs.YtcpoodhbakkmcaaGreatDoor
open Go.RowKit

/-- A list of knots of no more than b in each way. -/
def FitT (b : Nat) (l : List KnotM) : Prop := l.length ≤ b ∧ ∀ x ∈ l, x.1.size ≤ b ∧ x.2.length ≤ b

theorem FitT.small {b : Nat} {l : List KnotM} (h : FitT b l) (hb : b ≤ 1048576) : KSmall l := ⟨Nat.le_trans h.1 hb, fun x hx => ⟨Nat.le_trans (h.2 x hx).1 hb, Nat.le_trans (h.2 x hx).2 hb⟩⟩
theorem FitT.mono {b c : Nat} {l : List KnotM} (h : FitT b l) (hb : b ≤ c) : FitT c l := ⟨Nat.le_trans h.1 hb, fun x hx => ⟨Nat.le_trans (h.2 x hx).1 hb, Nat.le_trans (h.2 x hx).2 hb⟩⟩

theorem put1_fit {b : Nat} {l : List KnotM} {p : ByteArray} (h : FitT b l) (hp : p.size ≤ b) : FitT (b + 1) (put1 l p) := by
  refine ⟨Nat.le_trans (put1_length l p).1 (by have := h.1; omega), fun x hx => ?_⟩
  unfold put1 putK at hx
  split at hx
  · have := h.2 x hx; omega
  · rw [List.mem_append, List.mem_cons] at hx
    rcases hx with h1 | rfl | h1
    · have := h.2 x (List.mem_of_mem_take h1); omega
    · exact ⟨by show p.size ≤ _; omega, by simp⟩
    · have := h.2 x (List.mem_of_mem_drop h1); omega

theorem putsN_fit : ∀ (n : Nat) {b : Nat} {l : List KnotM} {p : ByteArray}, FitT b l → p.size ≤ b → FitT (b + n) (putsN n l p)
  | 0, _, _, _, h, _ => h
  | n + 1, b, l, p, h, hp => by
    rw [putsN]
    split
    · exact h.mono (by omega)
    · have := putsN_fit n (put1_fit h hp) (by have := above_size p; omega : (above p).size ≤ b + 1)
      exact this.mono (by omega)

theorem withL_fit {b : Nat} {l : List KnotM} {f : ByteArray} {id : Int} (h : FitT b l) (hf : f.size ≤ b) : FitT (b + f.size + 1) (withL l f id).1 := by
  unfold withL
  split
  · split
    · exact h.mono (by omega)
    · have hp := putsN_fit f.size h hf
      refine ⟨?_, fun x hx => ?_⟩
      · dsimp only; unfold setIds; rw [List.length_set]; have := hp.1; omega
      · dsimp only at hx
        unfold setIds at hx
        rcases List.mem_or_eq_of_mem_set hx with h1 | rfl
        · have := hp.2 x h1; omega
        · by_cases hk : (find (putsN f.size l f) f).toNat < (putsN f.size l f).length
          · have e : (putsN f.size l f).getD (find (putsN f.size l f) f).toNat knotZ = (putsN f.size l f)[(find (putsN f.size l f) f).toNat] := by rw [List.getD_eq_getElem?_getD, List.getElem?_eq_getElem hk]; rfl
            rw [e]
            have := hp.2 _ (List.getElem_mem hk)
            exact ⟨by dsimp only; omega, by dsimp only; rw [into_length]; omega⟩
          · have e : (putsN f.size l f).getD (find (putsN f.size l f) f).toNat knotZ = knotZ := by rw [List.getD_eq_getElem?_getD, List.getElem?_eq_none (by omega)]; rfl
            rw [e]
            exact ⟨by show (⟨#[]⟩ : ByteArray).size ≤ _; exact Nat.zero_le _, by dsimp only; rw [into_length]; simp [knotZ]⟩
  · exact ⟨Nat.zero_le _, fun x hx => by cases hx⟩

theorem trie_knotZ : trieB [knotZ] = true := by decide +kernel
theorem trie_pos {l : List KnotM} (h : trieB l = true) : 0 < l.length := by
  obtain ⟨x, hx, _⟩ := mem_paths.1 (trie_root_ids h)
  cases l with
  | nil => cases hx
  | cons a l => simp

theorem KOwn.thrown {w w' : World} {B g : Nat} {v : Value} {l : List KnotM} (h : KOwn w B v l) (hg : g < B) (hw : w.grownBy w' (some g)) : KOwn w' B v l := by
  obtain ⟨us, h1, h2, h3, h4⟩ := h
  exact ⟨us, h1, own_thrown h2 hg hw, fun j a b => own_thrown (h3 j a b) hg hw, h4⟩

set_option maxRecDepth 100000 in
set_option maxHeartbeats 1600000 in
theorem drawT_any {g : Nat} {a : Option Addr} {len cap : Nat} {w : World} (h : Curs g a len cap w) :
    Calls Tryz.prog 50 #[.pointer (some ⟨g, 0, none⟩)] w fun e w' => ∃ u l, e = .returned u ∧ KOwn w' w.heap.size u l ∧ FitT 200 l ∧ 0 < l.length ∧ Curs g a len cap w' ∧ w.grownBy w' (some g) := by
  have hg := h.lt
  have HH := Lib.hid h
  clear h
  go_enter Tryz.func50, Tryz.ntmps50
  go_wp2_with fail
  refine (specNewTrie_any w).mono ?_
  rintro e w1 ⟨u1, rfl, k1, b1⟩
  have K1 := Lib.hid k1
  have H1 := Lib.hid (HH.out.below hg b1)
  have G1 := Lib.hid (grown_below (r := some g) b1)
  clear k1 b1 HH
  go_wp2_with fail
  refine (curBelow_any 8 (by omega) H1.out).mono ?_
  rintro e w2 ⟨r, hr, rfl, h2, g2⟩
  have hr7 : r ≤ 7 := by rcases hr with h | h <;> omega
  have H2 := Lib.hid h2
  have G2 := Lib.hid (grown_trans G1.out g2)
  have K2 := Lib.hid (K1.out.thrown hg g2)
  clear h2 g2 H1 G1 K1 hr
  go_wp2_with fail
  go_loopw [3, 4] (fun u n wr => ∃ (l : List KnotM) (k : Nat), n = .int .i64 k ∧ k ≤ 7 ∧ Hid (trieB l = true) ∧ Hid (FitT (20 + 12 * (7 - k)) l) ∧ Hid (KOwn wr w.heap.size u l) ∧ Hid (Curs g a len cap wr) ∧ Hid (w.grownBy wr (some g))) (fun _ n _ => (intOf n).toNat)
  case atStart => exact ⟨[knotZ], r, rfl, hr7, Lib.hid trie_knotZ, Lib.hid ⟨by show 1 ≤ _; omega, fun x hx => by rw [List.mem_singleton.1 hx]; exact ⟨by show 0 ≤ _; omega, by simp [knotZ]⟩⟩, K2, H2, G2⟩
  case round =>
    obtain ⟨l, k, rfl, hk7, HT, HF, HK, HC, HG⟩ := hrel
    clear K2 H2 G2 hr7
    by_cases hk : 0 < k
    · go_wp2_with fail
      refine (drawFilter_any HC.out).mono ?_
      rintro e w3 ⟨s, rfl, hs, h3, g3⟩
      have H3 := Lib.hid h3
      have G3 := Lib.hid (grown_trans HG.out g3)
      have K3 := Lib.hid (HK.out.thrown hg g3)
      clear h3 g3 HC HG HK
      go_wp2_with fail
      refine (curBelow_any 10 (by omega) H3.out).mono ?_
      rintro e w4 ⟨r4, _, rfl, h4, g4⟩
      have H4 := Lib.hid h4
      have G4 := Lib.hid (grown_trans G3.out g4)
      have K4 := Lib.hid (K3.out.thrown hg g4)
      have hsz : w.heap.size ≤ w4.heap.size := G4.out.size
      clear h4 g4 H3 G3 K3
      have CW := Lib.hid (specWith_any _ l s r4 w4 (HF.out.small (by omega)) (by omega) (own_knots_at K4.out))
      have HF2 := Lib.hid ((withL_fit (id := (r4 : Int)) HF.out (by omega : s.size ≤ _)).mono (show _ ≤ 20 + 12 * (7 - (k - 1)) by omega))
      have HT2 := Lib.hid (withL_right (f := s) (id := (r4 : Int)) HT.out)
      obtain ⟨R, hR⟩ : ∃ R, withL l s r4 = R := ⟨_, rfl⟩
      rw [hR] at CW HF2 HT2
      obtain ⟨R1, R2⟩ := R
      dsimp only at CW HF2 HT2
      clear hR HF HT K4
      go_wp2_with fail
      refine CW.out.mono ?_
      rintro e w5 ⟨u5, rfl, k5, b5⟩
      have K5 := Lib.hid (k5.mono hsz)
      have H5 := Lib.hid (H4.out.below (by omega : g < w4.heap.size) b5)
      have G5 := Lib.hid (grown_own G4.out (b5.mono hsz))
      clear k5 b5 H4 G4 CW
      go_wp2
      go_roundw
      case rel => exact ⟨R1, k - 1, congrArg (Value.int .i64) (by omega), by omega, HT2, HF2, K5, H5, G5⟩
      case measure => simp only [intOf]; omega
    · go_wp2
      go_ret
      exact ⟨_, l, rfl, HK.out, HF.out.mono (by omega), trie_pos HT.out, HC.out, HG.out⟩

end Go.Proofs.YtcpoodhbakkmcaaGreatDoor

/- A right trie with a number less is right. -/
namespace Go.Proofs.YtcpoodhbakkmcaaGreatDoor
open Go.RowKit

theorem full_iff {K : List KeyM} {a : KeyM} (hK : PathsOk (paths K)) (ha : a ∈ K) : emptyAt K a.1 = false ↔ a.2 ≠ [] ∨ ∃ Q ∈ paths K, Q ≠ [] ∧ Q.dropLast = a.1 := by
  unfold emptyAt
  rw [idsAt_of hK ha, ← kid_has]
  cases hasKid K a.1 <;> cases a.2 <;> simp

theorem prune_right : ∀ (n : Nat) (K : List KeyM) (P : PathM), PathsOk (paths K) → P ∈ paths K → P.length ≤ n → (∀ a ∈ K, a.1 ≠ [] → a.1 ≠ P → emptyAt K a.1 = false) →
    PathsOk (paths (pruneK n K P)) ∧ (∀ a ∈ pruneK n K P, a ∈ K) ∧ (∀ a ∈ pruneK n K P, a.1 ≠ [] → emptyAt (pruneK n K P) a.1 = false) ∧ ∀ a ∈ K, a.1 = [] → a ∈ pruneK n K P
  | 0, K, P, hK, hP, hn, hI => by
    obtain rfl : P = [] := List.length_eq_zero_iff.1 (by omega)
    exact ⟨hK, fun a h => h, fun a ha hne => hI a ha hne hne, fun a h _ => h⟩
  | n + 1, K, P, hK, hP, hn, hI => by
    rw [pruneK]
    by_cases h1 : P = []
    · subst h1
      rw [if_pos rfl]
      exact ⟨hK, fun a h => h, fun a ha hne => hI a ha hne hne, fun a h _ => h⟩
    rw [if_neg h1]
    cases he : emptyAt K P
    · rw [if_neg (by simp)]
      refine ⟨hK, fun a h => h, fun a ha hne => ?_, fun a h _ => h⟩
      by_cases h2 : a.1 = P
      · rw [h2]; exact he
      · exact hI a ha hne h2
    · rw [if_pos rfl]
      have hC := cut_ok hK he
      have hmem : ∀ a, a ∈ cutAt K P ↔ a ∈ K ∧ a.1 ≠ P := fun a => by unfold cutAt; rw [List.mem_filter, decide_eq_true_iff]
      have hdl : P.dropLast ∈ paths (cutAt K P) := (cut_paths K P _).2 ⟨hK.closed P hP h1, empty_kid he P hP h1⟩
      obtain ⟨r1, r2, r3, r4⟩ := prune_right n (cutAt K P) P.dropLast hC hdl (by rw [List.length_dropLast]; omega) fun a ha hne hnd => by
        obtain ⟨ha1, ha2⟩ := (hmem a).1 ha
        have hf := (full_iff hK ha1).1 (hI a ha1 hne ha2)
        rw [full_iff hC ha]
        rcases hf with h | ⟨Q, hQ, hQ1, hQ2⟩
        · exact .inl h
        · refine .inr ⟨Q, (cut_paths K P Q).2 ⟨hQ, fun e => ?_⟩, hQ1, hQ2⟩
          rw [e] at hQ2; exact hnd hQ2.symm
      exact ⟨r1, fun a h => ((hmem a).1 (r2 a h)).1, r3, fun a ha h => r4 a ((hmem a).2 ⟨ha, fun e => h1 (e.symm.trans h)⟩) h⟩

theorem rises_filter {l : List Int} (p : Int → Bool) (h : rises l = true) : rises (l.filter p) = true := by
  rw [rises_pair] at h ⊢
  exact ⟨fun x hx => h.1 x (List.mem_filter.1 hx).1, h.2.filter _⟩

/-- A right trie with a number less is right. -/
theorem withoutL_right {l : List KnotM} {f : ByteArray} {id : Int} (ht : trieB l = true) : trieB (withoutL l f id).1 = true := by
  have hPO := trie_paths ht
  have h0 := trie_root_ids ht
  obtain ⟨hk, _⟩ := without_keys (f := f) (id := id) ht hPO h0
  rw [take_root id hPO h0] at hk
  by_cases hh : hasId (idsAt (l.map keyK) (pth f)) id = true
  · rw [if_pos hh] at hk
    dsimp only at hk
    have hF : pth f ∈ paths (l.map keyK) := by
      by_cases h : pth f ∈ paths (l.map keyK)
      · exact h
      · rw [idsAt_none h] at hh; cases hh
    have hRO : PathsOk (paths (remAt (l.map keyK) (pth f) id)) := by rw [remAt_paths]; exact hPO
    have hof : ∀ a ∈ remAt (l.map keyK) (pth f) id, ∃ b ∈ l.map keyK, a.1 = b.1 ∧ (a.2 = b.2 ∨ a.2 = b.2.filter (fun y => decide (y ≠ id))) ∧ (a.1 ≠ pth f → a = b) := fun a ha => by
      obtain ⟨b, hb, e⟩ := List.mem_map.1 ha
      refine ⟨b, hb, ?_⟩
      by_cases e2 : b.1 = pth f
      · rw [if_pos e2] at e; subst e
        exact ⟨rfl, .inr rfl, fun h => absurd e2 h⟩
      · rw [if_neg e2] at e; subst e
        exact ⟨rfl, .inl rfl, fun _ => rfl⟩
    obtain ⟨r1, r2, r3, r4⟩ := prune_right (pth f).length (remAt (l.map keyK) (pth f) id) (pth f) hRO (by rw [remAt_paths]; exact hF) (Nat.le_refl _) fun a ha hne hnf => by
      obtain ⟨b, hb, e1, _, e3⟩ := hof a ha
      have := e3 hnf
      subst this
      have hf := (full_iff hPO hb).1 (trie_needed ht a.1 (mem_paths.2 ⟨a, hb, rfl⟩) hne)
      rw [full_iff hRO ha, remAt_paths]
      exact hf
    obtain ⟨M, hM⟩ : ∃ M, (withoutL l f id).1 = M := ⟨_, rfl⟩
    rw [hM] at hk ⊢
    rw [← hk] at r1 r2 r3 r4
    have hroot : ([] : PathM) ∈ paths (M.map keyK) := by
      rw [← remAt_paths (l.map keyK) (pth f) id] at h0
      obtain ⟨a, ha, e⟩ := mem_paths.1 h0
      exact mem_paths.2 ⟨a, r4 a ha e, e⟩
    have hsrc : ∀ x ∈ M, ∃ y ∈ l, x.1 = y.1 ∧ (x.2 = y.2 ∨ x.2 = y.2.filter (fun z => decide (z ≠ id))) := fun x hx => by
      obtain ⟨b, hb, e1, e2, _⟩ := hof _ (r2 _ (List.mem_map_of_mem (f := keyK) hx))
      obtain ⟨y, hy, rfl⟩ := List.mem_map.1 hb
      exact ⟨y, hy, pth_same e1, e2⟩
    refine trie_of_keys r1 ?_ fun x hx hxn => ?_
    · obtain ⟨b, L, rfl, hbb, _⟩ := head_root r1 hroot
      rw [headOk, Bool.and_eq_true, beq_iff_eq]
      refine ⟨pth_nil.1 hbb, ?_⟩
      obtain ⟨y, hy, e1, e2⟩ := hsrc b (by simp)
      obtain ⟨c, L2, rfl, hcc, hcL⟩ := head_root hPO h0
      have hyc : y = c := by
        rcases List.mem_cons.1 hy with h | h
        · exact h
        · rw [e1] at hbb; exact absurd hbb (hcL y h)
      subst hyc
      have h := trie_head ht
      rw [headOk, Bool.and_eq_true] at h
      have hz : y.2 = [] := List.isEmpty_iff.1 h.2
      rcases e2 with e | e
      · rw [e]; exact h.2
      · rw [e, hz]; rfl
    · obtain ⟨y, hy, e1, e2⟩ := hsrc x hx
      obtain ⟨j, hj, rfl⟩ := List.mem_iff_getElem.1 hy
      have h1 : 1 ≤ j := by
        obtain ⟨c, L2, rfl, hcc, _⟩ := head_root hPO h0
        rcases Nat.lt_or_ge 0 j with h | h
        · exact h
        · obtain rfl : j = 0 := by omega
          rw [e1] at hxn; exact absurd hcc hxn
      have hta := trie_at ht hj h1
      refine ⟨by rw [e1]; exact hta.2.1, ?_, r3 (keyK x) (List.mem_map_of_mem (f := keyK) hx) hxn⟩
      rcases e2 with e | e
      · rw [e]; exact hta.2.2.1
      · rw [e]; exact rises_filter _ hta.2.2.1
  · rw [if_neg hh] at hk
    rw [keys_inj hk]; exact ht

theorem withoutL_done {l : List KnotM} {f : ByteArray} {id : Int} (h : (withoutL l f id).2 = true) : trieB l = true := by
  unfold withoutL at h
  split at h
  · assumption
  · cases h
theorem withL_done {l : List KnotM} {f : ByteArray} {id : Int} (h : (withL l f id).2 = true) : trieB l = true := by
  unfold withL at h
  split at h
  · assumption
  · cases h

end Go.Proofs.YtcpoodhbakkmcaaGreatDoor

/- What numbers stand at what path: with a number more, with a number less; the bare trie. -/
namespace Go.Proofs.YtcpoodhbakkmcaaGreatDoor
open Go.RowKit

theorem mem_ids {K : List KeyM} (hK : PathsOk (paths K)) {F : PathM} {x : Int} : x ∈ idsAt K F ↔ ∃ a ∈ K, a.1 = F ∧ x ∈ a.2 := by
  constructor
  · intro h
    by_cases hF : F ∈ paths K
    · obtain ⟨a, ha, rfl⟩ := mem_paths.1 hF
      exact ⟨a, ha, rfl, by rw [idsAt_of hK ha] at h; exact h⟩
    · rw [idsAt_none hF] at h; cases h
  · rintro ⟨a, ha, rfl, hx⟩
    rw [idsAt_of hK ha]; exact hx

/-- A number that is not there yet, at a right filter, is put in. -/
theorem withL_ok {l : List KnotM} {f : ByteArray} {id : Int} (ht : trieB l = true) (hf : filterP (parts f 47) = true) (hid : idOk id = true) (hn : id ∉ idsAt (l.map keyK) (pth f)) : (withL l f id).2 = true := by
  have hb : badId l f id = false := by
    rw [bad_id (trie_paths ht), hf, hid]
    cases h : hasId (idsAt (l.map keyK) (pth f)) id
    · rfl
    · exact absurd (hasId_iff.1 h) hn
  unfold withL
  rw [if_pos ht, hb]; rfl

theorem withL_has {l : List KnotM} {f : ByteArray} {id : Int} (ht : trieB l = true) (hw : (withL l f id).2 = true) (F : PathM) (x : Int) :
    x ∈ idsAt ((withL l f id).1.map keyK) F ↔ x ∈ idsAt (l.map keyK) F ∨ (F = pth f ∧ x = id) := by
  have hPO := trie_paths ht
  have h0 := trie_root_ids ht
  have hPM := trie_paths (withL_right (f := f) (id := id) ht)
  have hb : badId l f id = false := by
    cases e : badId l f id
    · rfl
    · unfold withL at hw; rw [if_pos ht, e] at hw; cases hw
  rw [bad_id hPO, Bool.or_eq_false_iff, Bool.or_eq_false_iff, Bool.not_eq_false', Bool.not_eq_false'] at hb
  obtain ⟨hf, hid, hh⟩ := hb
  obtain ⟨_, hgf, hne⟩ := filter_good hf
  obtain ⟨hk, _⟩ := with_keys ht hPO h0 hf hid
  rw [put_root id hPO h0 hgf, if_neg (by rw [hh]; simp)] at hk
  dsimp only at hk
  obtain ⟨hP, hm⟩ := preKeys_spec (pth f) (l.map keyK) [] hPO h0 hgf
  rw [mem_ids hPM, mem_ids hPO, hk]
  constructor
  · rintro ⟨a, ha, rfl, hx⟩
    obtain ⟨b, hb, e⟩ := List.mem_map.1 ha
    have hbk : ∀ y, y ∈ b.2 → b ∈ l.map keyK := fun y hy => by
      rcases (hm b).1 hb with h | ⟨h, _⟩
      · exact h
      · rw [h] at hy; cases hy
    by_cases e2 : b.1 = pth f
    · rw [if_pos e2] at e; subst e
      rcases into_mem.1 hx with h | h
      · exact .inr ⟨e2, h⟩
      · exact .inl ⟨b, hbk _ h, rfl, h⟩
    · rw [if_neg e2] at e; subst e
      exact .inl ⟨b, hbk _ hx, rfl, hx⟩
  · rintro (⟨b, hb, rfl, hx⟩ | ⟨rfl, rfl⟩)
    · refine ⟨if b.1 = pth f then (b.1, into b.2 id) else b, List.mem_map_of_mem ((hm b).2 (.inl hb)), ?_, ?_⟩
      · split <;> rfl
      · split
        · exact into_mem.2 (.inr hx)
        · exact hx
    · obtain ⟨b, hb, e⟩ := mem_paths.1 (pre_has hPO h0 hgf)
      refine ⟨if b.1 = pth f then (b.1, into b.2 x) else b, List.mem_map_of_mem hb, ?_, ?_⟩
      · rw [if_pos e]; exact e
      · rw [if_pos e]; exact into_mem.2 (.inl rfl)

theorem prune_keeps : ∀ (n : Nat) (K : List KeyM) (P : PathM) (a : KeyM), PathsOk (paths K) → a ∈ K → a.2 ≠ [] → a ∈ pruneK n K P
  | 0, _, _, _, _, ha, _ => ha
  | n + 1, K, P, a, hK, ha, h2 => by
    rw [pruneK]
    split
    · exact ha
    · split
      · rename_i he
        refine prune_keeps n (cutAt K P) P.dropLast a (cut_ok hK he) ?_ h2
        unfold cutAt
        rw [List.mem_filter, decide_eq_true_iff]
        refine ⟨ha, fun e => ?_⟩
        rw [← e] at he
        unfold emptyAt at he
        rw [idsAt_of hK ha, Bool.and_eq_true, List.isEmpty_iff] at he
        exact h2 he.1
      · exact ha

theorem withoutL_has {l : List KnotM} {f : ByteArray} {id : Int} (ht : trieB l = true) (F : PathM) (x : Int) :
    x ∈ idsAt ((withoutL l f id).1.map keyK) F ↔ x ∈ idsAt (l.map keyK) F ∧ ¬ (F = pth f ∧ x = id) := by
  have hPO := trie_paths ht
  have h0 := trie_root_ids ht
  have hPM := trie_paths (withoutL_right (f := f) (id := id) ht)
  obtain ⟨hk, _⟩ := without_keys (f := f) (id := id) ht hPO h0
  rw [take_root id hPO h0] at hk
  by_cases hh : hasId (idsAt (l.map keyK) (pth f)) id = true
  · rw [if_pos hh] at hk
    dsimp only at hk
    have hF : pth f ∈ paths (l.map keyK) := by
      by_cases h : pth f ∈ paths (l.map keyK)
      · exact h
      · rw [idsAt_none h] at hh; cases hh
    have hRO : PathsOk (paths (remAt (l.map keyK) (pth f) id)) := by rw [remAt_paths]; exact hPO
    obtain ⟨_, r2, _, _⟩ := prune_right (pth f).length (remAt (l.map keyK) (pth f) id) (pth f) hRO (by rw [remAt_paths]; exact hF) (Nat.le_refl _) fun a ha hne hnf => by
      obtain ⟨b, hb, e⟩ := List.mem_map.1 ha
      have hbf : b.1 ≠ pth f := fun e2 => by rw [if_pos e2] at e; subst e; exact hnf e2
      rw [if_neg hbf] at e; subst e
      have hf := (full_iff hPO hb).1 (trie_needed ht b.1 (mem_paths.2 ⟨b, hb, rfl⟩) hne)
      rw [full_iff hRO ha, remAt_paths]
      exact hf
    rw [mem_ids hPM, mem_ids hPO, hk]
    constructor
    · rintro ⟨a, ha, rfl, hx⟩
      obtain ⟨b, hb, e⟩ := List.mem_map.1 (r2 a ha)
      by_cases e2 : b.1 = pth f
      · rw [if_pos e2] at e; subst e
        obtain ⟨h1, h2⟩ := List.mem_filter.1 hx
        rw [decide_eq_true_iff] at h2
        exact ⟨⟨b, hb, rfl, h1⟩, fun h => h2 h.2⟩
      · rw [if_neg e2] at e; subst e
        exact ⟨⟨b, hb, rfl, hx⟩, fun h => e2 h.1⟩
    · rintro ⟨⟨b, hb, rfl, hx⟩, hn⟩
      have hin : (if b.1 = pth f then (b.1, b.2.filter (fun y => decide (y ≠ id))) else b) ∈ remAt (l.map keyK) (pth f) id := List.mem_map_of_mem hb
      by_cases e2 : b.1 = pth f
      · rw [if_pos e2] at hin
        have hx2 : x ∈ b.2.filter (fun y => decide (y ≠ id)) := List.mem_filter.2 ⟨hx, decide_eq_true fun e => hn ⟨e2, e⟩⟩
        exact ⟨_, prune_keeps _ _ _ _ hRO hin (List.ne_nil_of_mem hx2), rfl, hx2⟩
      · rw [if_neg e2] at hin
        exact ⟨b, prune_keeps _ _ _ _ hRO hin (List.ne_nil_of_mem hx), rfl, hx⟩
  · rw [if_neg hh] at hk
    rw [hk]
    refine ⟨fun h => ⟨h, fun ⟨e1, e2⟩ => ?_⟩, fun h => h.1⟩
    subst e1; subst e2
    exact hh (hasId_iff.2 h)

/-- A right trie without a number is the bare one. -/
theorem trie_bare {l : List KnotM} (ht : trieB l = true) (h : ∀ F x, x ∉ idsAt (l.map keyK) F) : l = [knotZ] := by
  have hPO := trie_paths ht
  have h0 := trie_root_ids ht
  have hall : ∀ n, ∀ Q ∈ paths (l.map keyK), Q ≠ [] → Q.length = n → ∃ R ∈ paths (l.map keyK), R.length = n + 1 := fun n Q hQ hne hn => by
    obtain ⟨a, ha, rfl⟩ := mem_paths.1 hQ
    rcases (full_iff hPO ha).1 (trie_needed ht _ hQ hne) with h1 | ⟨R, hR, hR1, hR2⟩
    · cases e : a.2 with
      | nil => exact absurd e h1
      | cons y ys => exact absurd ((mem_ids hPO).2 ⟨a, ha, rfl, by rw [e]; simp⟩) (h a.1 y)
    · refine ⟨R, hR, ?_⟩
      have := congrArg List.length hR2
      rw [List.length_dropLast] at this
      have := List.length_pos_iff.2 hR1
      omega
  have hno : ∀ Q ∈ paths (l.map keyK), Q = [] := fun Q hQ => by
    by_cases hne : Q = []
    · exact hne
    · have hup : ∀ d, ∃ R ∈ paths (l.map keyK), R.length = Q.length + d := fun d => by
        induction d with
        | zero => exact ⟨Q, hQ, rfl⟩
        | succ d ih =>
          obtain ⟨R, hR, hl⟩ := ih
          have hRn : R ≠ [] := fun e => by rw [e] at hl; have := List.length_pos_iff.2 hne; simp at hl; omega
          obtain ⟨S, hS, hS2⟩ := hall _ R hR hRn rfl
          exact ⟨S, hS, by omega⟩
      have hb : ∃ b, ∀ R ∈ paths (l.map keyK), R.length ≤ b := by
        generalize paths (l.map keyK) = L
        induction L with
        | nil => exact ⟨0, fun R hR => by cases hR⟩
        | cons A L ih =>
          obtain ⟨b, hb⟩ := ih
          exact ⟨b + A.length, fun R hR => by
            rcases List.mem_cons.1 hR with rfl | hR
            · omega
            · have := hb R hR; omega⟩
      obtain ⟨b, hb⟩ := hb
      obtain ⟨R, hR, hl⟩ := hup (b + 1)
      have := hb R hR
      omega
  obtain ⟨c, L, rfl, hc, hL⟩ := head_root hPO h0
  have hLn : L = [] := by
    cases L with
    | nil => rfl
    | cons y L => exact absurd (hno (pth y.1) (mem_paths.2 ⟨keyK y, by simp, rfl⟩)) (hL y (by simp))
  subst hLn
  have hh := trie_head ht
  rw [headOk, Bool.and_eq_true, beq_iff_eq] at hh
  have e1 : c.1 = ⟨#[]⟩ := name_eq (by rw [hh.1, list_toList])
  have e2 : c.2 = [] := List.isEmpty_iff.1 hh.2
  have : c = knotZ := Prod.ext e1 e2
  rw [this]

theorem bare_ids (F : PathM) : idsAt ([knotZ].map keyK) F = [] := by
  unfold idsAt
  rw [List.map_cons, List.map_nil]
  by_cases e : (keyK knotZ).1 = F
  · rw [List.find?_cons_of_pos (by simpa using e)]; rfl
  · rw [List.find?_cons_of_neg (by simpa using e)]; rfl

end Go.Proofs.YtcpoodhbakkmcaaGreatDoor

/- The mathematics of 'those for a topic': numbers put in at filters, told for a topic, and taken out again. -/
namespace Go.Proofs.YtcpoodhbakkmcaaGreatDoor
open Go.RowKit

theorem addIds_mem : ∀ (ids out : List Int) (x : Int), x ∈ ids.foldl addId out ↔ x ∈ out ∨ x ∈ ids
  | [], out, x => by simp
  | y :: ids, out, x => by
    rw [List.foldl_cons, addIds_mem ids, addId_mem, List.mem_cons]
    constructor
    · rintro ((h | h) | h)
      · exact .inr (.inl h)
      · exact .inl h
      · exact .inr (.inr h)
    · rintro (h | h | h)
      · exact .inl (.inr h)
      · exact .inl (.inl h)
      · exact .inr h

theorem idsFold_mem (t : ByteArray) : ∀ (ks : List KnotM) (out : List Int) (x : Int), x ∈ ks.foldl (idsStep t) out ↔ x ∈ out ∨ ∃ k ∈ ks, matchB k.1 t = true ∧ x ∈ k.2
  | [], out, x => by simp
  | k :: ks, out, x => by
    rw [List.foldl_cons, idsFold_mem t ks]
    unfold idsStep
    by_cases hm : matchB k.1 t = true
    · rw [if_pos hm, addIds_mem]
      constructor
      · rintro ((h | h) | ⟨k2, h1, h2⟩)
        · exact .inl h
        · exact .inr ⟨k, List.mem_cons_self, hm, h⟩
        · exact .inr ⟨k2, List.mem_cons_of_mem _ h1, h2⟩
      · rintro (h | ⟨k2, h1, h2, h3⟩)
        · exact .inl (.inl h)
        · rcases List.mem_cons.1 h1 with rfl | h1
          · exact .inl (.inr h3)
          · exact .inr ⟨k2, h1, h2, h3⟩
    · rw [if_neg hm]
      constructor
      · rintro (h | ⟨k2, h1, h2⟩)
        · exact .inl h
        · exact .inr ⟨k2, List.mem_cons_of_mem _ h1, h2⟩
      · rintro (h | ⟨k2, h1, h2, h3⟩)
        · exact .inl h
        · rcases List.mem_cons.1 h1 with rfl | h1
          · exact absurd h2 hm
          · exact .inr ⟨k2, h1, h2, h3⟩

theorem idsFold_rises (t : ByteArray) : ∀ (ks : List KnotM) (out : List Int), (∀ k ∈ ks, ∀ x ∈ k.2, idOk x = true) → rises out = true → rises (ks.foldl (idsStep t) out) = true
  | [], _, _, h => h
  | k :: ks, out, h1, h => by
    rw [List.foldl_cons]
    refine idsFold_rises t ks _ (fun k2 h2 => h1 k2 (List.mem_cons_of_mem _ h2)) ?_
    unfold idsStep
    split
    · exact foldl_rises k.2 out (h1 k List.mem_cons_self) h
    · exact h

theorem idsL_risesE {l : List KnotM} (ht : trieB l = true) (t : ByteArray) : rises (idsL l t) = true := by
  unfold idsL
  rw [if_pos ht]
  refine idsFold_rises t _ [] (fun k hk x hx => ?_) rfl
  obtain ⟨j, hj, e⟩ := List.mem_iff_getElem.1 hk
  rw [List.getElem_drop] at e
  have hjl : 1 + j < l.length := by rw [List.length_drop] at hj; omega
  have hr := knot_rises ht hjl (by omega)
  rw [e] at hr
  exact (rises_pair.1 hr).1 x hx

/-- A number is told for a topic where it stands at a filter that matches. -/
theorem idsL_memE {l : List KnotM} (ht : trieB l = true) (t : ByteArray) (x : Int) : x ∈ idsL l t ↔ ∃ f : ByteArray, pth f ≠ [] ∧ matchB f t = true ∧ x ∈ idsAt (l.map keyK) (pth f) := by
  have hPO := trie_paths ht
  have h0 := trie_root_ids ht
  unfold idsL
  rw [if_pos ht, idsFold_mem]
  obtain ⟨c, L, rfl, hc, hL⟩ := head_root hPO h0
  rw [show (c :: L).drop 1 = L from rfl]
  constructor
  · rintro (h | ⟨k, hk, hm, hx⟩)
    · cases h
    · exact ⟨k.1, hL k hk, hm, (mem_ids hPO).2 ⟨keyK k, List.mem_map_of_mem (List.mem_cons_of_mem _ hk), rfl, hx⟩⟩
  · rintro ⟨f, hne, hm, hx⟩
    obtain ⟨a, ha, e, hx2⟩ := (mem_ids hPO).1 hx
    obtain ⟨k, hk, rfl⟩ := List.mem_map.1 ha
    have e2 : k.1 = f := pth_same e
    refine .inr ⟨k, ?_, by rw [e2]; exact hm, hx2⟩
    rcases List.mem_cons.1 hk with rfl | h
    · exact absurd (e.symm.trans hc) hne
    · exact h

/-- l is a right trie that has, for the j-th of the filters fs (j from k on), the number j there, and nothing else. -/
def InvW (fs : List ByteArray) (k : Nat) (l : List KnotM) : Prop :=
  trieB l = true ∧ ∀ F x, x ∈ idsAt (l.map keyK) F ↔ ∃ j, ∃ h : j < fs.length, k ≤ j ∧ F = pth fs[j] ∧ x = (j : Int)

theorem trie_knotZ' : trieB [knotZ] = true := by decide +kernel

theorem invW_start : InvW [] 0 [knotZ] := ⟨trie_knotZ', fun F x => by rw [bare_ids]; simp⟩

theorem invW_put {fs : List ByteArray} {l : List KnotM} {f : ByteArray} (h : InvW fs 0 l) (hf : filterP (parts f 47) = true) (hn : fs.length ≤ 99) :
    (withL l f fs.length).2 = true ∧ InvW (fs ++ [f]) 0 (withL l f fs.length).1 := by
  have hw : (withL l f fs.length).2 = true := withL_ok h.1 hf (idOk_iff.2 ⟨by omega, by omega⟩) fun hx => by
    obtain ⟨j, hj, _, _, e⟩ := (h.2 _ _).1 hx
    omega
  refine ⟨hw, withL_right h.1, fun F x => ?_⟩
  rw [withL_has h.1 hw, h.2]
  constructor
  · rintro (⟨j, hj, h0, e1, e2⟩ | ⟨e1, e2⟩)
    · exact ⟨j, by simp; omega, h0, by rw [List.getElem_append_left hj]; exact e1, e2⟩
    · exact ⟨fs.length, by simp, Nat.zero_le _, by simpa using e1, e2⟩
  · rintro ⟨j, hj, h0, e1, e2⟩
    by_cases hl : j < fs.length
    · exact .inl ⟨j, hl, h0, by rw [List.getElem_append_left hl] at e1; exact e1, e2⟩
    · have : j = fs.length := by simp at hj; omega
      subst this
      exact .inr ⟨by simpa using e1, e2⟩

theorem invW_take {fs : List ByteArray} {l : List KnotM} {k : Nat} (h : InvW fs k l) (hk : k < fs.length) : InvW fs (k + 1) (withoutL l fs[k] k).1 := by
  refine ⟨withoutL_right h.1, fun F x => ?_⟩
  rw [withoutL_has h.1, h.2]
  constructor
  · rintro ⟨⟨j, hj, h0, e1, e2⟩, hn⟩
    refine ⟨j, hj, ?_, e1, e2⟩
    rcases Nat.lt_or_ge k j with h1 | h1
    · exact h1
    · have : j = k := by omega
      subst this
      exact absurd ⟨e1, e2⟩ hn
  · rintro ⟨j, hj, h0, e1, e2⟩
    exact ⟨⟨j, hj, by omega, e1, e2⟩, fun ⟨_, e⟩ => by omega⟩

theorem invW_end {fs : List ByteArray} {l : List KnotM} (h : InvW fs fs.length l) : l = [knotZ] :=
  trie_bare h.1 fun F x hx => by
    obtain ⟨j, hj, h0, _⟩ := (h.2 F x).1 hx
    omega

/-- The numbers, of the first k, whose filters match. -/
def wantTo (fs : List ByteArray) (t : ByteArray) (k : Nat) : List Int := ((List.range k).filter fun j => matchB (fs.getD j ⟨#[]⟩) t).map fun j : Nat => (j : Int)

theorem want_next (fs : List ByteArray) (t : ByteArray) (k : Nat) (hk : k < fs.length) : wantTo fs t (k + 1) = if matchB fs[k] t then wantTo fs t k ++ [(k : Int)] else wantTo fs t k := by
  have e : fs.getD k ⟨#[]⟩ = fs[k] := by rw [List.getD_eq_getElem?_getD, List.getElem?_eq_getElem hk]; rfl
  unfold wantTo
  rw [List.range_succ, List.filter_append, List.map_append]
  split
  · rename_i h; rw [List.filter_cons_of_pos (by rw [e]; exact h)]; rfl
  · rename_i h; rw [List.filter_cons_of_neg (by rw [e]; exact h)]; simp

theorem want_mem (fs : List ByteArray) (t : ByteArray) (k : Nat) (hk : k ≤ fs.length) (x : Int) : x ∈ wantTo fs t k ↔ ∃ j, ∃ h : j < fs.length, j < k ∧ matchB fs[j] t = true ∧ x = (j : Int) := by
  unfold wantTo
  rw [List.mem_map]
  have e : ∀ j (h : j < fs.length), fs.getD j ⟨#[]⟩ = fs[j] := fun j h => by rw [List.getD_eq_getElem?_getD, List.getElem?_eq_getElem h]; rfl
  constructor
  · rintro ⟨j, hj, rfl⟩
    obtain ⟨h1, h2⟩ := List.mem_filter.1 hj
    rw [List.mem_range] at h1
    exact ⟨j, by omega, h1, by rw [← e j (by omega)]; exact h2, rfl⟩
  · rintro ⟨j, hj, h1, h2, rfl⟩
    exact ⟨j, List.mem_filter.2 ⟨List.mem_range.2 h1, by rw [e j hj]; exact h2⟩, rfl⟩

theorem want_rises (fs : List ByteArray) (t : ByteArray) (k : Nat) (hk : k ≤ 100) : rises (wantTo fs t k) = true := by
  rw [rises_pair]
  unfold wantTo
  refine ⟨fun x hx => ?_, ?_⟩
  · obtain ⟨j, hj, rfl⟩ := List.mem_map.1 hx
    have := List.mem_range.1 (List.mem_filter.1 hj).1
    exact idOk_iff.2 ⟨by omega, by omega⟩
  · rw [List.pairwise_map]
    exact (List.pairwise_lt_range.filter _).imp fun h => by omega

theorem invW_ids {fs : List ByteArray} {l : List KnotM} (h : InvW fs 0 l) (hg : ∀ f ∈ fs, filterP (parts f 47) = true) (hn : fs.length ≤ 100) (t : ByteArray) : idsL l t = wantTo fs t fs.length := by
  refine rises_ext (idsL_risesE h.1 t) (want_rises fs t _ hn) fun x => ?_
  rw [idsL_memE h.1, want_mem _ _ _ (Nat.le_refl _)]
  constructor
  · rintro ⟨f, hne, hm, hx⟩
    obtain ⟨j, hj, _, e1, e2⟩ := (h.2 _ _).1 hx
    exact ⟨j, hj, hj, by rw [← pth_same e1]; exact hm, e2⟩
  · rintro ⟨j, hj, _, hm, e2⟩
    exact ⟨fs[j], (filter_good (hg _ (List.getElem_mem hj))).2.2, hm, (h.2 _ _).2 ⟨j, hj, Nat.zero_le _, rfl, e2⟩⟩

end Go.Proofs.YtcpoodhbakkmcaaGreatDoor
