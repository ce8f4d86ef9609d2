/- Small texts, laid together. -/
import Derived.Test.YtoeeaolhfheflaaDoorZSMsg
import Derived.Test.YtoeeaolhfheflaaDoorZB1
import Derived.Deep.AppendLies
import Derived.Test.YtoeeaolhfheflaaDoorZB2
import Derived.Lib.SliceRun
import Derived.Test.YtoeeaolhfheflaaDoorZIMatch
set_option linter.unusedSimpArgs false
set_option linter.unusedVariables false
/- Messages as cells: what an append of messages reads. -/
namespace Go.Proofs.YtoeeaolhfheflaaDoor
open Go.RowKit

theorem mcells_one (l : List MsgM) : ∀ u ∈ mcells l, u.oneCell' = true := by
  intro u hu
  obtain ⟨x, _, hx⟩ := List.mem_flatMap.1 hu
  simp only [mval, List.mem_cons, List.not_mem_nil, or_false] at hx
  rcases hx with rfl | rfl | rfl | rfl <;> rfl

/-- The cells of a row of messages, one by one. -/
theorem msgs_src {w : World} {b o : Nat} {l : List MsgM} (h : MsgsIn w b o l) : ∀ j u, (mcells l)[j]? = some u → w.cell? ((⟨b, o, none⟩ : Addr).add j) = some u := by
  intro j u hu
  have hj : j < l.length * 4 := by
    rcases Nat.lt_or_ge j (l.length * 4) with h | h
    · exact h
    · rw [List.getElem?_eq_none (by rw [mcells_length]; exact h)] at hu; cases hu
  have hi : j / 4 < l.length := by omega
  have e := mcells_at l (j / 4) hi
  have c := h (j / 4) hi
  have ha : ∀ n : Nat, (⟨b, o, none⟩ : Addr).add n = ⟨b, o + n, none⟩ := fun n => by unfold Addr.add; split <;> simp_all
  rw [ha]
  obtain ⟨i, hj2 | hj2 | hj2 | hj2⟩ : ∃ i, j = i * 4 ∨ j = i * 4 + 1 ∨ j = i * 4 + 2 ∨ j = i * 4 + 3 := ⟨j / 4, by omega⟩
  · subst hj2
    simp only [show i * 4 / 4 = i by omega] at e c
    rw [e.1] at hu; cases hu; exact c.1
  · subst hj2
    simp only [show (i * 4 + 1) / 4 = i by omega] at e c
    rw [e.2.1] at hu; cases hu; exact c.2.1
  · subst hj2
    simp only [show (i * 4 + 2) / 4 = i by omega] at e c
    rw [e.2.2.1] at hu; cases hu; exact c.2.2.1
  · subst hj2
    simp only [show (i * 4 + 3) / 4 = i by omega] at e c
    rw [e.2.2.2] at hu; cases hu; exact c.2.2.2

theorem msg_info : ∃ i, Tryd.prog.info? 28 = some i ∧ i.zero = some (.agg #[.int .i64 0, .int .i64 0, .string ⟨#[]⟩, .int .i64 0]) ∧ i.size = 4 ∧ i.bytes = 40 :=
  info_parts (by kernel_rfl)

theorem own_farR {w : World} {B n size g j : Nat} {E : TypeId} {u v : Value} {xs : List Value} (h : w.ownsRow B E size v n xs) (hg : g < B) : (w.setCell ⟨g, j, none⟩ u).ownsRow B E size v n xs :=
  h.kept (grown_setCell w g j u) (by
    cases e : v.ownBlock with
    | none => exact .inl rfl
    | some k => exact .inr (by have := (h.lt k e).1; intro e2; cases e2; omega))

theorem msg_new (w : World) (x : MsgM) (T : TypeId) : ∀ j u, (mcells [x])[j]? = some u → (w.alloc (.cells #[.int .i64 x.1, .int .i64 x.2.1, .string x.2.2.1, .int .i64 x.2.2.2] T)).cell? ((⟨w.heap.size, 0, none⟩ : Addr).add j) = some u := by
  refine msgs_src (l := [x]) fun j hj => ?_
  have : j = 0 := by simpa using hj
  subst this
  refine ⟨?_, ?_, ?_, ?_⟩ <;> rw [World.cell?_alloc_at _ _ _ _ rfl] <;> rfl

end Go.Proofs.YtoeeaolhfheflaaDoor

/- 'clear' of a part of an own row of messages. -/
namespace Go.Proofs.YtoeeaolhfheflaaDoor
open Go.RowKit Go.Lib

theorem zeroCells_four (n : Nat) : (Builtin.zeroCells (Value.agg #[.int .i64 0, .int .i64 0, .string ⟨#[]⟩, .int .i64 0]).cells n).toList = mcells (List.replicate n msgZ) := madeCells_four n

/-- 'clear(s)', s of n > 0 elements, whatever they are. -/
theorem run_clear_cells {P : Program} (w : World) (t e ty : TypeId) (z : Value) (ht : P.underlying t = some (.slice e)) (hv : ∀ w, (zeroValue e).run P w = .ok z w) (b o n c : Nat) (zc : List Value) (hz : (Builtin.zeroCells z.cells n).toList = zc) (h1 : ∀ v ∈ zc, v.oneCell' = true) (hn : 0 < n)
    (hc : ∀ j, j < zc.length → (w.cell? ⟨b, o + j, none⟩).isSome = true) (hf : ∀ j, j < zc.length → w.frozen? ⟨b, o + j, none⟩ = false) :
    (Builtin.clear_ #[t] ty #[.slice (some ⟨b, o, none⟩) n c]).run P w = .ok (.tuple #[]) (w.setCells b o zc) := by
  have hst := run_storeCells_cells (P := P) b o zc 0 w (by simpa using hc) (by simpa using hf) h1
  simp only [Nat.add_zero] at hst
  obtain ⟨m, rfl⟩ : ∃ m, n = m + 1 := ⟨n - 1, by omega⟩
  simp [Builtin.clear_, run_underlying ht, hv, hz, hst]

/-- An own row with others laid over a part of it. -/
theorem own_lay {w : World} {B g n cap : Nat} {E : TypeId} {size : Nat} {xs vs : List Value} {o : Nat} (h : w.ownsRow B E size (.slice (some ⟨g, 0, none⟩) n cap) n xs) (ho : o + vs.length ≤ xs.length) :
    (w.setCells g o vs).ownsRow B E size (.slice (some ⟨g, 0, none⟩) n cap) n (layAt xs o vs) := by
  have go : ∀ (vs : List Value) (o : Nat) (w : World) (xs : List Value), w.ownsRow B E size (.slice (some ⟨g, 0, none⟩) n cap) n xs → o + vs.length ≤ xs.length → (w.setCells g o vs).ownsRow B E size (.slice (some ⟨g, 0, none⟩) n cap) n (layAt xs o vs) := by
    intro vs
    induction vs with
    | nil =>
      intro o w xs h _
      have : layAt xs o [] = xs := by unfold layAt; simp
      rw [this]; exact h
    | cons v r ih =>
      intro o w xs h hl
      rw [List.length_cons] at hl
      rw [World.setCells, ← layAt_cons hl]
      exact ih (o + 1) _ _ (h.stored o v).1 (by rw [List.length_set]; omega)
  exact go vs o w xs h ho

/-- The operation 'clear' of a part of an own row of messages. -/
theorem wpList_clear_msgs {w : World} {ops : Array Oper} {rest : List Oper} {o : Oper} {a : Act} {Q : Exit → Act → World → Prop} (hgd : o.guard = none) (d : Operand)
    (ho : o.op = .call { callee := .builtin .clear, args := #[d], argTypes := #[24] })
    (B g n m k off c cap : Nat) (l : List MsgM) (hm : 0 < m) (hd : a.eval d = .slice (some ⟨g, off, none⟩) m c) (hoff : off = k * 4) (hg : MOwn w B (.slice (some ⟨g, 0, none⟩) n cap) l) (hfit : k + m ≤ l.length)
    (h : ∀ w', MOwn w' B (.slice (some ⟨g, 0, none⟩) n cap) (l.take k ++ List.replicate m msgZ ++ l.drop (k + m)) → w.grownBy w' (some g) → wpList Tryd.prog ops Q rest (a.put o.dst (.tuple #[])) w') : wpList Tryd.prog ops Q (o :: rest) a w := by
  subst hoff
  obtain ⟨_, _, e⟩ := own_slice hg
  cases e
  obtain ⟨i, hi1, hi2, hi3, hi4⟩ := msg_info
  have hz := mcells_length (List.replicate m msgZ)
  rw [List.length_replicate] at hz
  have hln := mcells_length l
  have hr := run_clear_cells (P := Tryd.prog) w 24 28 o.type (.agg #[.int .i64 0, .int .i64 0, .string ⟨#[]⟩, .int .i64 0]) Tryd.underlying24 Tryd.zeroValue28 g (k * 4) m c _ (zeroCells_four m) (mcells_one _) hm
    (fun j hj => by rw [hg.cellAt _ (by omega), List.getElem?_eq_getElem (by omega)]; rfl) (fun j hj => hg.frozenAt _)
  refine wpList_plain hgd fun K hK => ?_
  unfold Oper.wp execOp
  simp only [ho, resolve, invoke, builtin, Sem.run_bind, Sem.run_pure, Result.andThen_ok, List.map_toArray, List.map_cons, List.map_nil, hd, hr]
  refine hK _ _ (h _ ?_ (grown_setCells g _ _ w))
  have h2 := own_lay (vs := mcells (List.replicate m msgZ)) (o := k * 4) hg (by omega)
  have e1 : layAt (mcells l) (k * 4) (mcells (List.replicate m msgZ)) = mcells (l.take k ++ List.replicate m msgZ ++ l.drop (k + m)) := by
    unfold layAt
    have hp : ∀ j, j ≤ l.length → (mcells l).take (j * 4) = mcells (l.take j) ∧ (mcells l).drop (j * 4) = mcells (l.drop j) := fun j hj => by
      have e3 : mcells l = mcells (l.take j) ++ mcells (l.drop j) := by rw [← mcells_app, List.take_append_drop]
      have e4 : (mcells (l.take j)).length = j * 4 := by rw [mcells_length, List.length_take]; omega
      rw [e3]
      exact ⟨by rw [List.take_append_of_le_length (by omega), List.take_of_length_le (by omega)], by rw [List.drop_append_of_le_length (by omega), List.drop_of_length_le (by omega), List.nil_append]⟩
    rw [(hp k (by omega)).1, hz, show k * 4 + m * 4 = (k + m) * 4 by omega, (hp (k + m) hfit).2, mcells_app, mcells_app]
  rw [e1] at h2
  unfold MOwn
  have e5 : (l.take k ++ List.replicate m msgZ ++ l.drop (k + m)).length = l.length := by simp; omega
  rw [e5]; exact h2

end Go.Proofs.YtoeeaolhfheflaaDoor

/- slices.IndexFunc and slices.DeleteFunc at messages, with LatestOf's closure. -/
namespace Go.Proofs.YtoeeaolhfheflaaDoor
open Go.RowKit

/-- Does it go? -/
def goesM (f : ByteArray) (x : MsgM) : Bool := !matchB f x.2.2.1

set_option maxRecDepth 100000 in
set_option maxHeartbeats 1600000 in
theorem latestC_any (x : MsgM) (f : ByteArray) (F : Nat) (m : Int) (w : World) (hx : x.2.2.1.size ≤ 1048576) (hf : f.size ≤ 1048576) (hF : w.cell? ⟨F, 0, none⟩ = some (.string f)) (hm : w.cell? ⟨0, 0, none⟩ = some (.int .i64 m)) :
    Calls Tryd.prog 38 #[magg x, .pointer (some ⟨F, 0, none⟩)] w fun e w' => e = .returned (.bool (goesM f x)) ∧ Below w.heap.size w w' := by
  have CM := Lib.hid (fun w' hm => implMatches_any f x.2.2.1 m w' hf hx hm)
  have HG : Hid (goesM f x = !matchB f x.2.2.1) := rfl
  generalize matchB f x.2.2.1 = b at CM HG
  have HM := Lib.hid hm
  obtain ⟨q, t, p, d⟩ := x
  have ha : Below w.heap.size w (w.alloc (.cells #[.int .i64 q, .int .i64 t, .string p, .int .i64 d] 28)) := (Below.refl _ _).alloc (Nat.le_refl _) _
  have hF2 := (ha.cell (World.block_lt_of_cell? _ _ hF)).trans hF
  clear hm hF
  go_enter Tryd.func38, Tryd.ntmps38
  go_wp2_with fail
  refine (CM.out _ ((ha.cell (World.block_lt_of_cell? _ _ HM.out)).trans HM.out)).mono ?_
  rintro e w1 ⟨rfl, hb⟩
  have HE := Lib.hid (below_end ha hb)
  clear ha hb hF2
  go_wp2
  go_ret
  exact ⟨ret_bool HG.out.symm, HE.out⟩

set_option maxRecDepth 100000 in
set_option maxHeartbeats 3200000 in
theorem indexF_any (u : Value) (l : List MsgM) (f : ByteArray) (F : Nat) (m : Int) (w : World) (hl : l.length ≤ 2000000) (hs : ∀ x ∈ l, x.2.2.1.size ≤ 1048576) (hf : f.size ≤ 1048576) (hv : MsgsAt w u l) (hF : w.cell? ⟨F, 0, none⟩ = some (.string f)) (hm : w.cell? ⟨0, 0, none⟩ = some (.int .i64 m)) :
    Calls Tryd.prog 52 #[u, .func (.func 38) #[] #[.pointer (some ⟨F, 0, none⟩)]] w fun e w' =>
      ∃ z : Int, e = .returned (.int .i64 z) ∧ ((z = -1 ∧ ∀ x ∈ l, goesM f x = false) ∨ ∃ k : Nat, z = k ∧ ∃ h : k < l.length, goesM f l[k] = true ∧ ∀ j (hj : j < k), goesM f (l[j]'(by omega)) = false) ∧ Below w.heap.size w w' := by
  obtain ⟨a, c, rfl, hc1, hc2, hc3⟩ := hv
  have HC := Lib.hid hc3
  have HS := Lib.hid hs
  have HM := Lib.hid hm
  have HF := Lib.hid hF
  clear hc3 hs hm hF
  go_enter Tryd.func52, Tryd.ntmps52
  go_wp2
  go_loopw [8] (fun i wr => ∃ k : Nat, k ≤ l.length ∧ i = .int .i64 k ∧ Hid (∀ j (hj : j < k) (hk : j < l.length), goesM f l[j] = false) ∧ Hid (Below w.heap.size w wr)) (fun i _ => l.length - (intOf i).toNat)
  case atStart => exact ⟨0, Nat.zero_le _, rfl, Lib.hid (fun j hj => absurd hj (Nat.not_lt_zero _)), Below.refl _ _⟩
  case round =>
    obtain ⟨k, hk, rfl, HT, HB⟩ := hrel
    by_cases hlt : k < l.length
    · obtain ⟨b, o, rfl, hin⟩ : ∃ b o, a = some ⟨b, o, none⟩ ∧ MsgsIn w b o l := by
        rcases HC.out with h | h
        · subst h; simp at hlt
        · exact h
      obtain ⟨p0, p1, p2, p3⟩ := (hin.below HB.out) k hlt
      have CX := Lib.hid (fun wx hF hm => latestC_any l[k] f F m wx (HS.out _ (List.getElem_mem hlt)) hf hF hm)
      have HG : Hid (goesM f l[k] = true → (∃ kk : Nat, (k : Int) = kk ∧ ∃ h : kk < l.length, goesM f l[kk] = true ∧ ∀ j (hj : j < kk), goesM f (l[j]'(by omega)) = false)) := Lib.hid (fun h => ⟨k, rfl, hlt, h, fun j hj => HT.out j hj (by omega)⟩)
      have HN : Hid (goesM f l[k] = false → ∀ j (hj : j < k + 1) (hk : j < l.length), goesM f l[j] = false) := Lib.hid (fun h j hj hk => by
        rcases Nat.lt_or_ge j k with h1 | h1
        · exact HT.out j h1 hk
        · have : j = k := by omega
          subst this; exact h)
      generalize goesM f l[k] = gb at CX HG HN
      generalize l[k] = x at p0 p1 p2 p3 CX
      obtain ⟨q, t, p, d⟩ := x
      clear hin HT
      cases gb
      · have HT := Lib.hid (HN.out (by trivial))
        go_wp2_with (go_at_call 38; refine (CX.out _ ((HB.out.cell (World.block_lt_of_cell? _ _ HF.out)).trans HF.out) ((HB.out.cell (World.block_lt_of_cell? _ _ HM.out)).trans HM.out)).mono ?_; rintro e w1 ⟨rfl, hb⟩; have B1 := Lib.hid (below_end HB.out hb); clear hb p0 p1 p2 p3)
        go_roundw
        case rel => exact ⟨k + 1, by omega, by go_num, HT, B1⟩
        case measure => simp [intOf]; omega
      · have HT := Lib.hid (HG.out (by trivial))
        go_wp2_with (go_at_call 38; refine (CX.out _ ((HB.out.cell (World.block_lt_of_cell? _ _ HF.out)).trans HF.out) ((HB.out.cell (World.block_lt_of_cell? _ _ HM.out)).trans HM.out)).mono ?_; rintro e w1 ⟨rfl, hb⟩; have B1 := Lib.hid (below_end HB.out hb); clear hb p0 p1 p2 p3)
        go_ret
        exact ⟨_, rfl, .inr HT.out, B1.out⟩
    · obtain rfl : k = l.length := by omega
      go_wp2
      go_ret
      exact ⟨-1, rfl, .inl ⟨rfl, fun x hx => by obtain ⟨j, hj, rfl⟩ := List.mem_iff_getElem.1 hx; exact HT.out j hj hj⟩, HB.out⟩

end Go.Proofs.YtoeeaolhfheflaaDoor

/- The walk of impl.ringOf at messages: a box of its own, and a row of its own. -/
namespace Go.Proofs.YtoeeaolhfheflaaDoor
open Go.RowKit

theorem msgs_srcAt {w : World} {v : Value} {l : List MsgM} (h : MsgsAt w v l) : SrcAt w v l.length (mcells l) := by
  obtain ⟨a, c, rfl, _, _, h3⟩ := h
  refine ⟨a, c, rfl, ?_⟩
  rcases h3 with h3 | ⟨b, o, ha, hi⟩
  · subst h3
    cases a with
    | none => exact .inl ⟨rfl, rfl, rfl⟩
    | some ad => exact .inr ⟨ad, rfl, fun j u hu => by simp [mcells] at hu⟩
  · exact .inr ⟨_, ha, msgs_src hi⟩

/-- A ring of the program's own: its box. -/
def RBoxM (w : World) (G : Nat) (cap : Int) (u : Value) : Prop := w.heap[G]? = some (.cells #[.int .i64 cap, u] 57 (0, 0))

theorem RBoxM.below {w w' : World} {G : Nat} {cap : Int} {u : Value} (h : RBoxM w G cap u) (hb : Below w.heap.size w w') : RBoxM w' G cap u := (hb.block _ (Array.getElem?_eq_some_iff.1 h).1).trans h
theorem RBoxM.lt {w : World} {G : Nat} {cap : Int} {u : Value} (h : RBoxM w G cap u) : G < w.heap.size := (Array.getElem?_eq_some_iff.1 h).1
theorem RBoxM.c0 {w : World} {G : Nat} {cap : Int} {u : Value} (h : RBoxM w G cap u) : w.cell? ⟨G, 0, none⟩ = some (.int .i64 cap) := cell_of_heap h 0
theorem RBoxM.c1 {w : World} {G : Nat} {cap : Int} {u : Value} (h : RBoxM w G cap u) : w.cell? ⟨G, 1, none⟩ = some u := cell_of_heap h 1

set_option maxRecDepth 100000 in
set_option maxHeartbeats 1600000 in
theorem ringOf_any (cap : Int) (v : Value) (l : List MsgM) (w : World) (hl : l.length ≤ 2000000) (hv : MsgsAt w v l) :
    Calls Tryd.prog 24 #[.int .i64 cap, v] w fun e w' =>
      ∃ G u, e = .returned (.pointer (some ⟨G, 0, none⟩)) ∧ RBoxM w' G cap u ∧ w.heap.size ≤ G ∧ MOwn w' w.heap.size u l ∧ Below w.heap.size w w' := by
  have HS := Lib.hid (msgs_srcAt hv)
  obtain ⟨ua, uc, rfl, _, _, _⟩ := hv
  obtain ⟨i, hi, hz0, hz1, hz2⟩ := msg_info
  have HL := Lib.hid (mcells_length l)
  go_enter Tryd.func24, Tryd.ntmps24
  go_wp2_with (at_builtin; refine wpList_append_src rfl _ _ 24 rfl w.heap.size 28 i (.agg #[.int .i64 0, .int .i64 0, .string ⟨#[]⟩, .int .i64 0]) 4 40 Tryd.underlying24 hi hz0 hz1 hz2 rfl (by decide) (.slice none 0 0) (.slice ua l.length uc) 0 l.length [] (mcells l) rfl (World.ownsRow_nil _ _ _ _) rfl HS.out HL.out (mcells_one l) (by unfold maxLen; omega) (by omega) (Nat.le_refl _) ?_; intro v' w' hown hgr _; rw [Nat.zero_add, List.nil_append] at hown; obtain ⟨ra, rc, hv'⟩ := own_slice hown; subst hv')
  have HB := Lib.hid ((Below.refl w.heap.size w).grown hgr (Nat.le_refl _) (fun k h => by cases h))
  have HW := Lib.hid hown
  clear hown hgr
  go_wp2
  go_ret
  exact ⟨_, _, rfl, heap_alloc_new _ _, HB.out.size, row_below HW.out ((Below.refl _ _).alloc (Nat.le_refl _) _), HB.out.alloc HB.out.size _⟩

end Go.Proofs.YtoeeaolhfheflaaDoor
