/- The law's argument, a list of bytes, as the dice and the cursor read it. -/
import Derived.Test.YtiigllhedlpccaaDoorLift
import Derived.Test.YtiigllhedlpccaaDoorName
namespace Go.Proofs.YtiigllhedlpccaaDoor
open Go.RowKit

theorem CodeAt.of_ints {W : World} {x : Addr} {l c : Nat} {zs : List Int} (hl : l ≤ c) (hz : zs.length = c) (hcell : ∀ i, i < zs.length → W.cell? (x.add i) = some (.int .u8 (zs.getD i 0))) (hwz : ∀ n ∈ zs, (Lit.int .u8 n).wf = true) : CodeAt W.heap.size (some x) l W := by
  by_cases h0 : l = 0
  · exact .inl h0
  · obtain ⟨b, off, rfl, hc⟩ := ints_at hcell (by omega)
    refine .inr ⟨b, off, rfl, World.block_lt_of_cell? _ _ (hc 0 (by omega)), fun j hj => ?_⟩
    have hj2 : j < zs.length := by omega
    have hw := hwz (zs.getD j 0) (by rw [List.getD_eq_getElem?_getD, List.getElem?_eq_getElem hj2]; exact List.getElem_mem hj2)
    have hb : 0 ≤ zs.getD j 0 ∧ zs.getD j 0 ≤ 255 := by simpa [Lit.wf, IntKind.min, IntKind.max, IntKind.signed, IntKind.bits] using hw
    exact ⟨(zs.getD j 0).toNat, by omega, by rw [hc j hj2]; congr 2; omega⟩

theorem topic_filter {l : List ByteArray} (h : topicP l = true) : filterP l = true := by
  rw [topicP, Bool.and_eq_true, decide_eq_true_iff, List.all_eq_true] at h
  rw [filterP, Bool.and_eq_true, decide_eq_true_iff]
  refine ⟨h.1, filterTo_all fun j hj => ?_⟩
  rw [partF, h.2 _ (List.getElem_mem hj)]; rfl

/-! ### The parts joined again -/

/-- Texts with slashes between. -/
def jl : List (List UInt8) → List UInt8
  | [] => []
  | [p] => p
  | p :: q :: ps => p ++ 47 :: jl (q :: ps)

theorem jl_cut : ∀ L : List UInt8, jl (cut 47 L) = L
  | [] => rfl
  | b :: L => by
    have ih := jl_cut L
    obtain ⟨p, ps, h⟩ := cut_cons 47 L
    rw [h] at ih
    by_cases e : b = 47
    · subst e; rw [cut_eq, h, jl, ih]; rfl
    · rw [cut_ne e h]
      cases ps with
      | nil => simpa [jl] using ih
      | cons q ps => rw [jl] at ih ⊢; rw [List.cons_append, ih]

theorem jl_snoc : ∀ (xs : List (List UInt8)) (y : List UInt8), xs ≠ [] → jl (xs ++ [y]) = jl xs ++ 47 :: y
  | [], _, h => absurd rfl h
  | [p], y, _ => rfl
  | p :: q :: ps, y, _ => by
    have ih := jl_snoc (q :: ps) y (by simp)
    rw [List.cons_append, List.cons_append, jl, ← List.cons_append, ih, jl, List.append_assoc, List.cons_append]

/-- The first k texts of l with slashes between. -/
def joinTo (l : List ByteArray) : Nat → ByteArray
  | 0 => ⟨#[]⟩
  | k + 1 => (if 0 < k then joinTo l k ++ ⟨#[47]⟩ else joinTo l k) ++ l.getD k ByteArray.empty

theorem joinTo_data (l : List ByteArray) : ∀ k, k ≤ l.length → (joinTo l k).data.toList = jl ((l.take k).map (·.data.toList))
  | 0, _ => rfl
  | k + 1, h => by
    have ih := joinTo_data l k (by omega)
    have hk : k < l.length := by omega
    have e1 : l.getD k ByteArray.empty = l[k] := by rw [List.getD_eq_getElem?_getD, List.getElem?_eq_getElem hk]; rfl
    rw [List.take_succ_eq_append_getElem hk, List.map_append, joinTo, e1]
    by_cases h0 : 0 < k
    · rw [if_pos h0, List.map_cons, List.map_nil, jl_snoc _ _ (by simp; exact ⟨by omega, fun e => by subst e; simp at hk⟩), ← ih]
      simp [ByteArray.data_append]
    · have : k = 0 := by omega
      subst this
      simp [joinTo, jl, ByteArray.data_append]

theorem joinTo_parts (s : ByteArray) : joinTo (parts s 47) (parts s 47).length = s := by
  apply bytes_ext
  rw [joinTo_data _ _ (Nat.le_refl _), List.take_length, parts_data, jl_cut]

theorem joinTo_next (l : List ByteArray) (k : Nat) (h : k < l.length) : joinTo l (k + 1) = (if 0 < k then joinTo l k ++ ⟨#[47]⟩ else joinTo l k) ++ l[k] := by
  rw [joinTo, List.getD_eq_getElem?_getD, List.getElem?_eq_getElem h]; rfl

end Go.Proofs.YtiigllhedlpccaaDoor
