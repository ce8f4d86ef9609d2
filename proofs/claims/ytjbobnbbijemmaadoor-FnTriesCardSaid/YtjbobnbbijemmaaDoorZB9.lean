/- Small texts, laid together. -/
import Derived.Test.YtjbobnbbijemmaaDoorZB2
import Derived.Test.YtjbobnbbijemmaaDoorZB3
import Derived.Test.YtjbobnbbijemmaaDoorZB4
import Derived.Test.YtjbobnbbijemmaaDoorZSTrie8
import Derived.Test.YtjbobnbbijemmaaDoorZTrieB
set_option linter.unusedSimpArgs false
set_option linter.unusedVariables false
/- The walks of the reference's draws of tries. -/
namespace Go.Proofs.YtjbobnbbijemmaaDoor
open Go.RowKit

/-- A list of knots of no more than b in each way. -/
def FitT (b : Nat) (l : List KnotM) : Prop := l.length ≤ b ∧ ∀ x ∈ l, x.1.size ≤ b ∧ x.2.length ≤ b

theorem FitT.small {b : Nat} {l : List KnotM} (h : FitT b l) (hb : b ≤ 1048576) : KSmall l := ⟨Nat.le_trans h.1 hb, fun x hx => ⟨Nat.le_trans (h.2 x hx).1 hb, Nat.le_trans (h.2 x hx).2 hb⟩⟩
theorem FitT.mono {b c : Nat} {l : List KnotM} (h : FitT b l) (hb : b ≤ c) : FitT c l := ⟨Nat.le_trans h.1 hb, fun x hx => ⟨Nat.le_trans (h.2 x hx).1 hb, Nat.le_trans (h.2 x hx).2 hb⟩⟩

theorem put1_fit {b : Nat} {l : List KnotM} {p : ByteArray} (h : FitT b l) (hp : p.size ≤ b) : FitT (b + 1) (put1 l p) := by
  refine ⟨Nat.le_trans (put1_length l p).1 (by have := h.1; omega), fun x hx => ?_⟩
  unfold put1 putK at hx
  split at hx
  · have := h.2 x hx; omega
  · rw [List.mem_append, List.mem_cons] at hx
    rcases hx with h1 | rfl | h1
    · have := h.2 x (List.mem_of_mem_take h1); omega
    · exact ⟨by show p.size ≤ _; omega, by simp⟩
    · have := h.2 x (List.mem_of_mem_drop h1); omega

theorem putsN_fit : ∀ (n : Nat) {b : Nat} {l : List KnotM} {p : ByteArray}, FitT b l → p.size ≤ b → FitT (b + n) (putsN n l p)
  | 0, _, _, _, h, _ => h
  | n + 1, b, l, p, h, hp => by
    rw [putsN]
    split
    · exact h.mono (by omega)
    · have := putsN_fit n (put1_fit h hp) (by have := above_size p; omega : (above p).size ≤ b + 1)
      exact this.mono (by omega)

theorem withL_fit {b : Nat} {l : List KnotM} {f : ByteArray} {id : Int} (h : FitT b l) (hf : f.size ≤ b) : FitT (b + f.size + 1) (withL l f id).1 := by
  unfold withL
  split
  · split
    · exact h.mono (by omega)
    · have hp := putsN_fit f.size h hf
      refine ⟨?_, fun x hx => ?_⟩
      · dsimp only; unfold setIds; rw [List.length_set]; have := hp.1; omega
      · dsimp only at hx
        unfold setIds at hx
        rcases List.mem_or_eq_of_mem_set hx with h1 | rfl
        · have := hp.2 x h1; omega
        · by_cases hk : (find (putsN f.size l f) f).toNat < (putsN f.size l f).length
          · have e : (putsN f.size l f).getD (find (putsN f.size l f) f).toNat knotZ = (putsN f.size l f)[(find (putsN f.size l f) f).toNat] := by rw [List.getD_eq_getElem?_getD, List.getElem?_eq_getElem hk]; rfl
            rw [e]
            have := hp.2 _ (List.getElem_mem hk)
            exact ⟨by dsimp only; omega, by dsimp only; rw [into_length]; omega⟩
          · have e : (putsN f.size l f).getD (find (putsN f.size l f) f).toNat knotZ = knotZ := by rw [List.getD_eq_getElem?_getD, List.getElem?_eq_none (by omega)]; rfl
            rw [e]
            exact ⟨by show (⟨#[]⟩ : ByteArray).size ≤ _; exact Nat.zero_le _, by dsimp only; rw [into_length]; simp [knotZ]⟩
  · exact ⟨Nat.zero_le _, fun x hx => by cases hx⟩

theorem trie_knotZ : trieB [knotZ] = true := by decide +kernel
theorem trie_pos {l : List KnotM} (h : trieB l = true) : 0 < l.length := by
  obtain ⟨x, hx, _⟩ := mem_paths.1 (trie_root_ids h)
  cases l with
  | nil => cases hx
  | cons a l => simp

theorem KOwn.thrown {w w' : World} {B g : Nat} {v : Value} {l : List KnotM} (h : KOwn w B v l) (hg : g < B) (hw : w.grownBy w' (some g)) : KOwn w' B v l := by
  obtain ⟨us, h1, h2, h3, h4⟩ := h
  exact ⟨us, h1, own_thrown h2 hg hw, fun j a b => own_thrown (h3 j a b) hg hw, h4⟩

set_option maxRecDepth 100000 in
set_option maxHeartbeats 1600000 in
theorem drawT_any {g : Nat} {a : Option Addr} {len cap : Nat} {w : World} (h : Curs g a len cap w) :
    Calls Tryd.prog 40 #[.pointer (some ⟨g, 0, none⟩)] w fun e w' => ∃ u l, e = .returned u ∧ KOwn w' w.heap.size u l ∧ FitT 200 l ∧ 0 < l.length ∧ Curs g a len cap w' ∧ w.grownBy w' (some g) := by
  have hg := h.lt
  have HH := Lib.hid h
  clear h
  go_enter Tryd.func40, Tryd.ntmps40
  go_wp2_with fail
  refine (specNewTrie_any w).mono ?_
  rintro e w1 ⟨u1, rfl, k1, b1⟩
  have K1 := Lib.hid k1
  have H1 := Lib.hid (HH.out.below hg b1)
  have G1 := Lib.hid (grown_below (r := some g) b1)
  clear k1 b1 HH
  go_wp2_with fail
  refine (curBelow_any 8 (by omega) H1.out).mono ?_
  rintro e w2 ⟨r, hr, rfl, h2, g2⟩
  have hr7 : r ≤ 7 := by rcases hr with h | h <;> omega
  have H2 := Lib.hid h2
  have G2 := Lib.hid (grown_trans G1.out g2)
  have K2 := Lib.hid (K1.out.thrown hg g2)
  clear h2 g2 H1 G1 K1 hr
  go_wp2_with fail
  go_loopw [3, 4] (fun u n wr => ∃ (l : List KnotM) (k : Nat), n = .int .i64 k ∧ k ≤ 7 ∧ Hid (trieB l = true) ∧ Hid (FitT (20 + 12 * (7 - k)) l) ∧ Hid (KOwn wr w.heap.size u l) ∧ Hid (Curs g a len cap wr) ∧ Hid (w.grownBy wr (some g))) (fun _ n _ => (intOf n).toNat)
  case atStart => exact ⟨[knotZ], r, rfl, hr7, Lib.hid trie_knotZ, Lib.hid ⟨by show 1 ≤ _; omega, fun x hx => by rw [List.mem_singleton.1 hx]; exact ⟨by show 0 ≤ _; omega, by simp [knotZ]⟩⟩, K2, H2, G2⟩
  case round =>
    obtain ⟨l, k, rfl, hk7, HT, HF, HK, HC, HG⟩ := hrel
    clear K2 H2 G2 hr7
    by_cases hk : 0 < k
    · go_wp2_with fail
      refine (drawFilter_any HC.out).mono ?_
      rintro e w3 ⟨s, rfl, hs, h3, g3⟩
      have H3 := Lib.hid h3
      have G3 := Lib.hid (grown_trans HG.out g3)
      have K3 := Lib.hid (HK.out.thrown hg g3)
      clear h3 g3 HC HG HK
      go_wp2_with fail
      refine (curBelow_any 10 (by omega) H3.out).mono ?_
      rintro e w4 ⟨r4, _, rfl, h4, g4⟩
      have H4 := Lib.hid h4
      have G4 := Lib.hid (grown_trans G3.out g4)
      have K4 := Lib.hid (K3.out.thrown hg g4)
      have hsz : w.heap.size ≤ w4.heap.size := G4.out.size
      clear h4 g4 H3 G3 K3
      have CW := Lib.hid (specWith_any _ l s r4 w4 (HF.out.small (by omega)) (by omega) (own_knots_at K4.out))
      have HF2 := Lib.hid ((withL_fit (id := (r4 : Int)) HF.out (by omega : s.size ≤ _)).mono (show _ ≤ 20 + 12 * (7 - (k - 1)) by omega))
      have HT2 := Lib.hid (withL_right (f := s) (id := (r4 : Int)) HT.out)
      obtain ⟨R, hR⟩ : ∃ R, withL l s r4 = R := ⟨_, rfl⟩
      rw [hR] at CW HF2 HT2
      obtain ⟨R1, R2⟩ := R
      dsimp only at CW HF2 HT2
      clear hR HF HT K4
      go_wp2_with fail
      refine CW.out.mono ?_
      rintro e w5 ⟨u5, rfl, k5, b5⟩
      have K5 := Lib.hid (k5.mono hsz)
      have H5 := Lib.hid (H4.out.below (by omega : g < w4.heap.size) b5)
      have G5 := Lib.hid (grown_own G4.out (b5.mono hsz))
      clear k5 b5 H4 G4 CW
      go_wp2
      go_roundw
      case rel => exact ⟨R1, k - 1, congrArg (Value.int .i64) (by omega), by omega, HT2, HF2, K5, H5, G5⟩
      case measure => simp only [intOf]; omega
    · go_wp2
      go_ret
      exact ⟨_, l, rfl, HK.out, HF.out.mono (by omega), trie_pos HT.out, HC.out, HG.out⟩

end Go.Proofs.YtjbobnbbijemmaaDoor

/- A right trie with a number less is right. -/
namespace Go.Proofs.YtjbobnbbijemmaaDoor
open Go.RowKit

theorem full_iff {K : List KeyM} {a : KeyM} (hK : PathsOk (paths K)) (ha : a ∈ K) : emptyAt K a.1 = false ↔ a.2 ≠ [] ∨ ∃ Q ∈ paths K, Q ≠ [] ∧ Q.dropLast = a.1 := by
  unfold emptyAt
  rw [idsAt_of hK ha, ← kid_has]
  cases hasKid K a.1 <;> cases a.2 <;> simp

theorem prune_right : ∀ (n : Nat) (K : List KeyM) (P : PathM), PathsOk (paths K) → P ∈ paths K → P.length ≤ n → (∀ a ∈ K, a.1 ≠ [] → a.1 ≠ P → emptyAt K a.1 = false) →
    PathsOk (paths (pruneK n K P)) ∧ (∀ a ∈ pruneK n K P, a ∈ K) ∧ (∀ a ∈ pruneK n K P, a.1 ≠ [] → emptyAt (pruneK n K P) a.1 = false) ∧ ∀ a ∈ K, a.1 = [] → a ∈ pruneK n K P
  | 0, K, P, hK, hP, hn, hI => by
    obtain rfl : P = [] := List.length_eq_zero_iff.1 (by omega)
    exact ⟨hK, fun a h => h, fun a ha hne => hI a ha hne hne, fun a h _ => h⟩
  | n + 1, K, P, hK, hP, hn, hI => by
    rw [pruneK]
    by_cases h1 : P = []
    · subst h1
      rw [if_pos rfl]
      exact ⟨hK, fun a h => h, fun a ha hne => hI a ha hne hne, fun a h _ => h⟩
    rw [if_neg h1]
    cases he : emptyAt K P
    · rw [if_neg (by simp)]
      refine ⟨hK, fun a h => h, fun a ha hne => ?_, fun a h _ => h⟩
      by_cases h2 : a.1 = P
      · rw [h2]; exact he
      · exact hI a ha hne h2
    · rw [if_pos rfl]
      have hC := cut_ok hK he
      have hmem : ∀ a, a ∈ cutAt K P ↔ a ∈ K ∧ a.1 ≠ P := fun a => by unfold cutAt; rw [List.mem_filter, decide_eq_true_iff]
      have hdl : P.dropLast ∈ paths (cutAt K P) := (cut_paths K P _).2 ⟨hK.closed P hP h1, empty_kid he P hP h1⟩
      obtain ⟨r1, r2, r3, r4⟩ := prune_right n (cutAt K P) P.dropLast hC hdl (by rw [List.length_dropLast]; omega) fun a ha hne hnd => by
        obtain ⟨ha1, ha2⟩ := (hmem a).1 ha
        have hf := (full_iff hK ha1).1 (hI a ha1 hne ha2)
        rw [full_iff hC ha]
        rcases hf with h | ⟨Q, hQ, hQ1, hQ2⟩
        · exact .inl h
        · refine .inr ⟨Q, (cut_paths K P Q).2 ⟨hQ, fun e => ?_⟩, hQ1, hQ2⟩
          rw [e] at hQ2; exact hnd hQ2.symm
      exact ⟨r1, fun a h => ((hmem a).1 (r2 a h)).1, r3, fun a ha h => r4 a ((hmem a).2 ⟨ha, fun e => h1 (e.symm.trans h)⟩) h⟩

theorem rises_filter {l : List Int} (p : Int → Bool) (h : rises l = true) : rises (l.filter p) = true := by
  rw [rises_pair] at h ⊢
  exact ⟨fun x hx => h.1 x (List.mem_filter.1 hx).1, h.2.filter _⟩

/-- A right trie with a number less is right. -/
theorem withoutL_right {l : List KnotM} {f : ByteArray} {id : Int} (ht : trieB l = true) : trieB (withoutL l f id).1 = true := by
  have hPO := trie_paths ht
  have h0 := trie_root_ids ht
  obtain ⟨hk, _⟩ := without_keys (f := f) (id := id) ht hPO h0
  rw [take_root id hPO h0] at hk
  by_cases hh : hasId (idsAt (l.map keyK) (pth f)) id = true
  · rw [if_pos hh] at hk
    dsimp only at hk
    have hF : pth f ∈ paths (l.map keyK) := by
      by_cases h : pth f ∈ paths (l.map keyK)
      · exact h
      · rw [idsAt_none h] at hh; cases hh
    have hRO : PathsOk (paths (remAt (l.map keyK) (pth f) id)) := by rw [remAt_paths]; exact hPO
    have hof : ∀ a ∈ remAt (l.map keyK) (pth f) id, ∃ b ∈ l.map keyK, a.1 = b.1 ∧ (a.2 = b.2 ∨ a.2 = b.2.filter (fun y => decide (y ≠ id))) ∧ (a.1 ≠ pth f → a = b) := fun a ha => by
      obtain ⟨b, hb, e⟩ := List.mem_map.1 ha
      refine ⟨b, hb, ?_⟩
      by_cases e2 : b.1 = pth f
      · rw [if_pos e2] at e; subst e
        exact ⟨rfl, .inr rfl, fun h => absurd e2 h⟩
      · rw [if_neg e2] at e; subst e
        exact ⟨rfl, .inl rfl, fun _ => rfl⟩
    obtain ⟨r1, r2, r3, r4⟩ := prune_right (pth f).length (remAt (l.map keyK) (pth f) id) (pth f) hRO (by rw [remAt_paths]; exact hF) (Nat.le_refl _) fun a ha hne hnf => by
      obtain ⟨b, hb, e1, _, e3⟩ := hof a ha
      have := e3 hnf
      subst this
      have hf := (full_iff hPO hb).1 (trie_needed ht a.1 (mem_paths.2 ⟨a, hb, rfl⟩) hne)
      rw [full_iff hRO ha, remAt_paths]
      exact hf
    obtain ⟨M, hM⟩ : ∃ M, (withoutL l f id).1 = M := ⟨_, rfl⟩
    rw [hM] at hk ⊢
    rw [← hk] at r1 r2 r3 r4
    have hroot : ([] : PathM) ∈ paths (M.map keyK) := by
      rw [← remAt_paths (l.map keyK) (pth f) id] at h0
      obtain ⟨a, ha, e⟩ := mem_paths.1 h0
      exact mem_paths.2 ⟨a, r4 a ha e, e⟩
    have hsrc : ∀ x ∈ M, ∃ y ∈ l, x.1 = y.1 ∧ (x.2 = y.2 ∨ x.2 = y.2.filter (fun z => decide (z ≠ id))) := fun x hx => by
      obtain ⟨b, hb, e1, e2, _⟩ := hof _ (r2 _ (List.mem_map_of_mem (f := keyK) hx))
      obtain ⟨y, hy, rfl⟩ := List.mem_map.1 hb
      exact ⟨y, hy, pth_same e1, e2⟩
    refine trie_of_keys r1 ?_ fun x hx hxn => ?_
    · obtain ⟨b, L, rfl, hbb, _⟩ := head_root r1 hroot
      rw [headOk, Bool.and_eq_true, beq_iff_eq]
      refine ⟨pth_nil.1 hbb, ?_⟩
      obtain ⟨y, hy, e1, e2⟩ := hsrc b (by simp)
      obtain ⟨c, L2, rfl, hcc, hcL⟩ := head_root hPO h0
      have hyc : y = c := by
        rcases List.mem_cons.1 hy with h | h
        · exact h
        · rw [e1] at hbb; exact absurd hbb (hcL y h)
      subst hyc
      have h := trie_head ht
      rw [headOk, Bool.and_eq_true] at h
      have hz : y.2 = [] := List.isEmpty_iff.1 h.2
      rcases e2 with e | e
      · rw [e]; exact h.2
      · rw [e, hz]; rfl
    · obtain ⟨y, hy, e1, e2⟩ := hsrc x hx
      obtain ⟨j, hj, rfl⟩ := List.mem_iff_getElem.1 hy
      have h1 : 1 ≤ j := by
        obtain ⟨c, L2, rfl, hcc, _⟩ := head_root hPO h0
        rcases Nat.lt_or_ge 0 j with h | h
        · exact h
        · obtain rfl : j = 0 := by omega
          rw [e1] at hxn; exact absurd hcc hxn
      have hta := trie_at ht hj h1
      refine ⟨by rw [e1]; exact hta.2.1, ?_, r3 (keyK x) (List.mem_map_of_mem (f := keyK) hx) hxn⟩
      rcases e2 with e | e
      · rw [e]; exact hta.2.2.1
      · rw [e]; exact rises_filter _ hta.2.2.1
  · rw [if_neg hh] at hk
    rw [keys_inj hk]; exact ht

theorem withoutL_done {l : List KnotM} {f : ByteArray} {id : Int} (h : (withoutL l f id).2 = true) : trieB l = true := by
  unfold withoutL at h
  split at h
  · assumption
  · cases h
theorem withL_done {l : List KnotM} {f : ByteArray} {id : Int} (h : (withL l f id).2 = true) : trieB l = true := by
  unfold withL at h
  split at h
  · assumption
  · cases h

end Go.Proofs.YtjbobnbbijemmaaDoor
