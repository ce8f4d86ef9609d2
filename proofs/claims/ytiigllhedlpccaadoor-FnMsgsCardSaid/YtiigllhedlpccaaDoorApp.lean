/- An append of nothing. -/
import Derived.Test.YtiigllhedlpccaaDoorRowG
import Derived.Test.YtiigllhedlpccaaDoorBase
import Derived.OwnWalk
import Derived.Deep.RegionHeld
namespace Go.Proofs.YtiigllhedlpccaaDoor
open Go.RowKit

/-- An append of nothing to an own row. -/
theorem wpList_append_empty {P : Program} {w : World} {ops : Array Oper} {rest : List Oper} {o : Oper} {a : Act} {Q : Exit → Act → World → Prop} (hgd : o.guard = none) (s x : Operand) (t : TypeId)
    (ho : o.op = .call { callee := .builtin .append, args := #[s, x], argTypes := #[t, t] }) (base : Nat) (e : TypeId) (i : TypeInfo) (size : Nat) (ht : P.underlying t = some (.slice e)) (hi : P.info? e = some i) (_hs : i.size = size)
    (v : Value) (n : Nat) (xs : List Value) (hs : a.eval s = v) (hown : w.ownsRow base e size v n xs) (c : Nat) (hx : a.eval x = .slice none 0 c)
    (h : wpList P ops Q rest (a.put o.dst v) w) : wpList P ops Q (o :: rest) a w := by
  refine wpList_plain hgd fun K hK => ?_
  have hrun : (Builtin.append_ #[t, t] o.type #[v, .slice none 0 c]).run P w = .ok v w := by
    rw [show Builtin.append_ #[t, t] o.type #[v, .slice none 0 c] = Builtin.append_ #[t, t] o.type #[v, .slice none 0 0] from rfl]
    exact run_append_owned_none w base t o.type e i size ht hi v n xs hown
  unfold Oper.wp
  simp [execOp, ho, resolve, invoke, builtin, hs, hx, hrun, Result.andThen]
  exact hK _ _ h

end Go.Proofs.YtiigllhedlpccaaDoor
