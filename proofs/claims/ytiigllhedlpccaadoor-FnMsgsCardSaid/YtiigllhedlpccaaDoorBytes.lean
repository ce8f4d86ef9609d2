/- A slice of bytes made a text, whatever the bytes. Of no program. -/
import Derived.WalkKit
namespace Go.Proofs.YtiigllhedlpccaaDoor
open Go.RowKit

/-- Bytes as cells. -/
def byteCells (l : List UInt8) : List Value := l.map fun c => Value.int .u8 (c.toNat : Int)

theorem foldl_push (l : List Int) : ∀ s : ByteArray, (l.foldl (fun r n => r.push (UInt8.ofNat n.toNat)) s).data.toList = s.data.toList ++ l.map fun n => UInt8.ofNat n.toNat := by
  induction l with
  | nil => intro s; simp
  | cons n l ih => intro s; rw [List.foldl_cons, ih]; simp [ByteArray.push]

theorem conv_bytes {P : Program} {w : World} {src dst e : TypeId} (a : Addr) (n c : Nat) (l : List UInt8) (hn : l.length = n)
    (hs : P.underlying src = some (.slice e)) (he : P.underlying e = some (.int .u8)) (hd : P.underlying dst = some .string)
    (hc : ∀ j u, (byteCells l)[j]? = some u → w.cell? (a.add j) = some u) :
    (convert src dst (.slice (some a) n c)).run P w = .ok (.string ⟨l.toArray⟩) w := by
  rw [run_convert_bytes_string w src dst e _ _ _ hs he hd]
  have h1 := run_loadCells_list (P := P) (w := w) a (byteCells l) hc
  have e1 : byteCells l = (l.map fun c => (c.toNat : Int)).map (Value.int .u8) := by simp [byteCells]
  have e2 : (byteCells l).length = n := by simp [byteCells, hn]
  rw [e2, e1] at h1
  rw [run_bytesToString w a n c _ h1]
  have : ((l.map fun c => (c.toNat : Int)).foldl (fun r n => r.push (UInt8.ofNat n.toNat)) ByteArray.empty) = ⟨l.toArray⟩ := by
    have h3 := foldl_push (l.map fun c => (c.toNat : Int)) ByteArray.empty
    apply ByteArray.ext
    apply Array.toList_inj.1
    rw [h3]
    simp [ByteArray.empty, ByteArray.emptyWithCapacity, Function.comp_def]
    rfl
  rw [this]

/-- One byte that a literal has just laid. -/
theorem conv_one {P : Program} (w : World) {src dst e : TypeId} (x : Nat) (hx : x < 256)
    (hs : P.underlying src = some (.slice e)) (he : P.underlying e = some (.int .u8)) (hd : P.underlying dst = some .string) :
    (convert src dst (.slice (some ⟨w.heap.size, 0, none⟩) 1 1)).run P (w.alloc (.cells #[.int .u8 (x : Int)] e)) = .ok (.string ⟨[x.toUInt8].toArray⟩) (w.alloc (.cells #[.int .u8 (x : Int)] e)) := by
  refine conv_bytes _ 1 1 [x.toUInt8] rfl hs he hd ?_
  intro j u hj
  match j, hj with
  | 0, hj =>
    have e : (x.toUInt8).toNat = x := by simp; omega
    have hu : u = .int .u8 (x : Int) := by
      have : some (Value.int .u8 ((x.toUInt8).toNat : Int)) = some u := hj
      rw [e] at this
      exact (Option.some.inj this).symm
    rw [hu]
    show World.cell? _ ⟨w.heap.size, 0, none⟩ = _
    rw [World.cell?_alloc_at _ _ _ _ rfl]
    rfl

end Go.Proofs.YtiigllhedlpccaaDoor
