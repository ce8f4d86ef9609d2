/- The walk of impl.KeptFor. -/
import Derived.Test.YtgkfnmbjlfmcmaaGreatDoorZB3
import Derived.Test.YtgkfnmbjlfmcmaaGreatDoorZB5
import Derived.Test.YtgkfnmbjlfmcmaaGreatDoorZCmpM2
import Derived.Test.YtgkfnmbjlfmcmaaGreatDoorZB2
set_option linter.unusedSimpArgs false
set_option linter.unusedVariables false
namespace Go.Proofs.YtgkfnmbjlfmcmaaGreatDoor
open Go.RowKit Go.Maps Go.Sort

theorem sortedS_any (b nn : Nat) (L : List MsgM) (w : World) (hL : L.length ≤ 1048576) (hw : MapOwn w b nn L) :
    Calls Tryz.prog 24 #[.map (some b), .func (.func 33) #[] #[]] w fun e w' =>
      ∃ v d, e = .returned v ∧ MOwn w' w.heap.size v d ∧ d.Perm L ∧ (d.Pairwise fun x y => ltOf seqC y x = false) ∧ Below w.heap.size w w' :=
  sorted_any seqC seqC_swo _ (enters_of Tryz.func33 (by kernel_rfl) rfl) (fun a b W => bySeq_any a b W) b nn L w hL hw

set_option maxRecDepth 100000 in
set_option maxHeartbeats 3200000 in
theorem implKeptFor_any (v : Value) (l : List MsgM) (f : ByteArray) (m : Int) (w : World) (hl : l.length ≤ 1048576) (hs : ∀ x ∈ l, x.2.2.1.size ≤ 1048576) (hfs : f.size ≤ 1048576) (hv : MsgsAt w v l) (hm : w.cell? ⟨0, 0, none⟩ = some (.int .i64 m)) :
    Calls Tryz.prog 12 #[v, .string f] w fun e w' => ∃ V u pre post, e = .returned u ∧ MOwn w' w.heap.size V (pre ++ forM l f ++ post) ∧ PartOf V pre.length (forM l f).length u ∧ Below w.heap.size w w' := by
  have CK := Lib.hid (fun wx (h : MsgsAt wx v l) hm => implKeepOk_any v l m wx hl hs h hm)
  have CL := Lib.hid (fun wx (h : MsgsAt wx v l) hr => lastWordsOf_any v l wx hl hs hr h)
  have CD := Lib.hid (fun Bf B wx hw hc hm => deleteFunc_any f Bf B l.length l m wx hfs hs hw hc hm)
  have CS := Lib.hid (fun B n L wx hL h => sortedS_any B n L wx hL h)
  have HB : Hid (keepB l = false → forM l f = []) := Lib.hid (fun h => by unfold forM; rw [h]; rfl)
  have HKS := Lib.hid (fun d h1 => @for_sorted l d f h1)
  have HKR := Lib.hid (@keepB_rise l)
  have HFL := Lib.hid (List.length_filter_le (fun x : MsgM => matchB f x.2.2.1) l)
  have HV := Lib.hid hv
  have HM := Lib.hid hm
  have HL := Lib.hid hl
  obtain ⟨ua, uc, rfl, _, _, _⟩ := hv
  obtain ⟨b1, hb1⟩ : ∃ b, keepB l = b := ⟨_, rfl⟩
  simp only [hb1] at CK HB HKR HKS
  obtain ⟨R, hR⟩ : ∃ R, forM l f = R := ⟨_, rfl⟩
  simp only [hR] at HB HKS ⊢
  clear hb1 hR hl hs hm hfs
  go_enter Tryz.func12, Tryz.ntmps12
  go_wp2_with fail
  have hb0 : Below w.heap.size w (w.alloc (.cells #[.string f] 9)) := (Below.refl _ _).alloc (Nat.le_refl _) _
  have h0 : (w.alloc (.cells #[.string f] 9)).heap[w.heap.size]? = some (.cells #[.string f] 9 (0, 0)) := heap_alloc_new _ _
  generalize w.alloc (.cells #[.string f] 9) = w0 at hb0 h0 ⊢
  have HMX := Lib.hid (fun wx (h : Below w.heap.size w wx) => (h.cell (World.block_lt_of_cell? _ _ HM.out)).trans HM.out)
  have hs0 : w.heap.size < w0.heap.size := (Array.getElem?_eq_some_iff.1 h0).1
  refine (CK.out _ (HV.out.below hb0) (HMX.out _ hb0)).mono ?_
  rintro e w1 ⟨rfl, hb⟩
  have B1 := Lib.hid (below_end hb0 hb)
  have H1 := (hb.block w.heap.size hs0).trans h0
  have hs1 : w.heap.size < w1.heap.size := Nat.lt_of_lt_of_le hs0 hb.size
  clear hb hb0 h0 hs0 CK
  cases b1
  · have HE : Hid (R = []) := Lib.hid (HB.out (by trivial))
    go_wp2
    go_ret
    exact ⟨.slice none 0 0, .slice none 0 0, [], [], rfl, by rw [HE.out]; exact World.ownsRow_nil _ _ _ _, by rw [HE.out]; exact .inl ⟨rfl, rfl, rfl⟩, B1.out⟩
  obtain ⟨hr, h24, hgood⟩ := HKR.out (by trivial)
  have HR := Lib.hid hr
  clear hr h24 hgood
  go_wp2_with fail
  refine (CL.out _ (HV.out.below B1.out) HR.out).mono ?_
  rintro e w2 ⟨rfl, hw2, hb⟩
  have B2 := Lib.hid (below_end B1.out hb)
  have H2 := Lib.hid ((hb.block w.heap.size hs1).trans H1)
  have W2 := Lib.hid hw2
  clear hb hw2 CL H1
  go_wp2_with fail
  refine (CD.out w.heap.size _ w2 W2.out (cell_of_heap H2.out 0) (HMX.out _ B2.out)).mono ?_
  rintro e w3 ⟨rfl, hw3, hg⟩
  have B3 := Lib.hid (B2.out.grown hg B2.out.size (fun k h => by cases h; exact B1.out.size))
  have W3 := Lib.hid hw3
  clear hg hw3 CD H2 W2
  go_wp2_with fail
  refine (CS.out _ _ _ w3 (Nat.le_trans HFL.out HL.out) W3.out).mono ?_
  rintro e w4 ⟨u, dd, rfl, ho, hp, hss, hb⟩
  obtain ⟨za, zc, rfl⟩ := own_slice ho
  have B4 := Lib.hid (below_end B3.out hb)
  have HE := Lib.hid (HKS.out dd (by trivial) hp hss)
  have O4 := Lib.hid (own_mono ho B3.out.size)
  clear hb ho hp hss
  go_wp2
  go_ret
  exact ⟨_, _, [], [], rfl, by rw [← HE.out, List.nil_append, List.append_nil]; exact O4.out, by rw [← HE.out]; exact PartOf.whole O4.out, B4.out⟩

end Go.Proofs.YtgkfnmbjlfmcmaaGreatDoor
