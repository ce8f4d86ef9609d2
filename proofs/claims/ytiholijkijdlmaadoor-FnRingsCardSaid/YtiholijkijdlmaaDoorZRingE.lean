/- The mathematics of 'a ring has the last ones': nine put into a ring, one after the other. -/
import Derived.Test.YtiholijkijdlmaaDoorZB7
import Derived.Test.YtiholijkijdlmaaDoorZSRing3
import Derived.Test.YtiholijkijdlmaaDoorZB2
set_option linter.unusedSimpArgs false
set_option linter.unusedVariables false
namespace Go.Proofs.YtiholijkijdlmaaDoor
open Go.RowKit

/-- l are the last ones, at most c, of n numbered from 1 on. -/
structure Rec9 (c n : Nat) (l : List MsgM) : Prop where
  len : l.length = min n c
  seq : ∀ j (h : j < l.length), l[j].1 = ((n - l.length + j + 1 : Nat) : Int)
  good : ∀ x ∈ l, msgB x = true ∧ x.2.2.1.size ≤ 8

theorem Rec9.start (c : Nat) : Rec9 c 0 [] := ⟨by simp, fun j h => absurd h (by simp), fun x h => by cases h⟩

theorem Rec9.ring {c n : Nat} {l : List MsgM} (h : Rec9 c n l) (hc : c ≤ 32) : ringB c l = true := by
  have h1 : inB (c : Int) 0 32 = true := by unfold inB; simp; omega
  have h3 : decide ((l.length : Int) ≤ (c : Int)) = true := decide_eq_true (by have := h.len; omega)
  have h2 : msgsB l = true := by
    unfold msgsB msgsTo
    rw [List.all_eq_true]
    intro j hj
    have hj := List.mem_range.1 hj
    rw [dif_pos hj]
    unfold nextM
    rw [(h.good _ (List.getElem_mem hj)).1, Bool.true_and]
    by_cases h0 : j = 0
    · simp [h0]
    · have e1 := h.seq j hj
      have e2 := h.seq (j - 1) (by omega)
      rw [e1, e2]
      have : ((n - l.length + (j - 1) + 1 : Nat) : Int) < ((n - l.length + j + 1 : Nat) : Int) := by omega
      rw [decide_eq_true this]; simp
  unfold ringB
  rw [h1, h2, h3]; rfl

theorem Rec9.step {c n : Nat} {l : List MsgM} {s : ByteArray} (h : Rec9 c n l) (hc1 : 1 ≤ c) (hc : c ≤ 32) (hn : n ≤ 100) (hs : topicP (parts s 47) = true) (hs8 : s.size ≤ 8) :
    ∃ L, recM c l (((n + 1 : Nat) : Int), 0, s, 0) = ((c : Int), L, true) ∧ Rec9 c (n + 1) L := by
  have hm : msgB (((n + 1 : Nat) : Int), 0, s, 0) = true := by unfold msgB inB; simp [hs]; omega
  have hb : behindM l ((n + 1 : Nat) : Int) = true := by
    unfold behindM
    by_cases h0 : l.length = 0
    · simp [h0]
    · have e : l.getD (l.length - 1) (0, 0, ⟨#[]⟩, 0) = l[l.length - 1]'(by omega) := by simp [show l.length - 1 < l.length by omega]
      rw [e, h.seq (l.length - 1) (by omega)]
      have hl := h.len
      have : ((n - l.length + (l.length - 1) + 1 : Nat) : Int) < ((n + 1 : Nat) : Int) := by omega
      rw [decide_eq_true this]; simp
  have hr : recM c l (((n + 1 : Nat) : Int), 0, s, 0) = ((c : Int), if (c : Int) < (l.length : Int) + 1 then (l ++ [(((n + 1 : Nat) : Int), 0, s, 0)]).drop 1 else l ++ [(((n + 1 : Nat) : Int), 0, s, 0)], true) := by
    unfold recM
    rw [if_pos (h.ring hc), hm, hb]
    rfl
  refine ⟨_, hr, ?_⟩
  have hl := h.len
  have hlast : ∀ j (hj : j < (l ++ [(((n + 1 : Nat) : Int), (0 : Int), s, (0 : Int))]).length), ((l ++ [(((n + 1 : Nat) : Int), (0 : Int), s, (0 : Int))])[j]).1 = ((n - l.length + j + 1 : Nat) : Int) := by
    intro j hj
    rw [List.getElem_append]
    split
    · rename_i hjl; exact h.seq j hjl
    · rename_i hjl
      simp at hj
      have : j = l.length := by omega
      subst this
      simp; omega
  have hgood : ∀ x ∈ l ++ [(((n + 1 : Nat) : Int), (0 : Int), s, (0 : Int))], msgB x = true ∧ x.2.2.1.size ≤ 8 := by
    intro x hx
    rcases List.mem_append.1 hx with h1 | h1
    · exact h.good x h1
    · rw [List.mem_singleton.1 h1]; exact ⟨hm, hs8⟩
  by_cases hd : (c : Int) < (l.length : Int) + 1
  · rw [if_pos hd]
    refine ⟨by simp; omega, fun j hj => ?_, fun x hx => hgood x (List.mem_of_mem_drop hx)⟩
    rw [List.getElem_drop, hlast]
    simp only [List.length_drop, List.length_append, List.length_cons, List.length_nil] at hj ⊢
    omega
  · rw [if_neg hd]
    refine ⟨by simp; omega, fun j hj => ?_, hgood⟩
    rw [hlast]
    simp only [List.length_append, List.length_cons, List.length_nil] at hj ⊢
    omega

theorem Rec9.done {c : Nat} {l : List MsgM} (h : Rec9 c 9 l) (hc : c ≤ 5) : latestM c l 9 ⟨#[35]⟩ = l ∧ l.length = c ∧ ∀ j (hj : j < l.length), l[j].1 = 10 - (c : Int) + (j : Int) := by
  have hl := h.len
  refine ⟨?_, by omega, fun j hj => by rw [h.seq j hj]; omega⟩
  unfold latestM
  rw [if_pos ⟨h.ring (by omega), by omega⟩, show l.length - (9 : Int).toNat = 0 by omega, List.drop_zero]
  unfold pickM
  rw [List.filter_eq_self]
  intro x hx
  have hg := (h.good x hx).1
  unfold msgB at hg
  simp only [Bool.and_eq_true] at hg
  exact matchB_all hg.1.2

end Go.Proofs.YtiholijkijdlmaaDoor
