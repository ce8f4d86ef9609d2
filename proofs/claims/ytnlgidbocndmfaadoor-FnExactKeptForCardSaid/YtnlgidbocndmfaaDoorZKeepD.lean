/- What is kept stays few and short. -/
import Derived.Test.YtnlgidbocndmfaaDoorZB2
set_option linter.unusedSimpArgs false
set_option linter.unusedVariables false
namespace Go.Proofs.YtnlgidbocndmfaaDoor

theorem keptPut_mem {m x y : MsgM} {s : List MsgM × Bool} (h : y ∈ (keptPut m s x).1) : y ∈ s.1 ∨ y = m := by
  unfold keptPut at h
  split at h
  · rcases List.mem_append.1 h with h | h
    · exact .inl h
    · exact .inr (List.mem_singleton.1 h)
  · exact .inl h

theorem keptStep_mem {m x y : MsgM} {s : List MsgM × Bool} (h : y ∈ (keptStep m s x).1) : y ∈ s.1 ∨ y = m ∨ y = x := by
  unfold keptStep at h
  split at h
  · rcases keptPut_mem h with h | h
    · exact .inl h
    · exact .inr (.inl h)
  · rcases List.mem_append.1 h with h | h
    · rcases keptPut_mem h with h | h
      · exact .inl h
      · exact .inr (.inl h)
    · exact .inr (.inr (List.mem_singleton.1 h))

theorem keptTo_mem {m y : MsgM} (l : List MsgM) : ∀ k, k ≤ l.length → y ∈ (keptTo m l k).1 → y ∈ l ∨ y = m
  | 0, _, h => by simp [keptTo] at h
  | k + 1, hk, h => by
    rw [keptTo_succ m l k (by omega)] at h
    rcases keptStep_mem h with h | h | h
    · exact keptTo_mem l k (by omega) h
    · exact .inr h
    · exact .inl (by rw [h]; exact List.getElem_mem _)

theorem keptM_mem {l : List MsgM} {m y : MsgM} (h : y ∈ (keptM l m).1) : y ∈ l ∨ y = m := by
  have ho : y ∈ keptOut l m → y ∈ l ∨ y = m := fun h => by
    unfold keptOut at h
    split at h
    · exact keptTo_mem l _ (Nat.le_refl _) h
    · rcases List.mem_append.1 h with h | h
      · exact keptTo_mem l _ (Nat.le_refl _) h
      · exact .inr (List.mem_singleton.1 h)
  unfold keptM at h
  split at h
  · split at h
    · split at h
      · exact .inl h
      · exact ho h
    · exact .inl h
  · cases h

theorem keptM_few {l : List MsgM} (m : MsgM) (hl : l.length ≤ 24) : (keptM l m).1.length ≤ 24 := by
  unfold keptM
  split
  · split
    · split
      · exact hl
      · dsimp only; omega
    · exact hl
  · simp

end Go.Proofs.YtnlgidbocndmfaaDoor
