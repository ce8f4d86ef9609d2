/- The exact laws' marks laid into a ring whose items are a part of an own row. -/
import Derived.Test.YtfdikopfpeiilaaDoorZMPart
import Derived.Test.YtfdikopfpeiilaaDoorZMsgR
set_option linter.unusedSimpArgs false
set_option linter.unusedVariables false
namespace Go.Proofs.YtfdikopfpeiilaaDoor
open Go.RowKit

set_option maxRecDepth 100000 in
set_option maxHeartbeats 400000 in
theorem markRingPart_any (cap : Int) (V u : Value) (pre l post : List MsgM) (k0 B : Nat) (w : World) (hk0 : 1 ≤ k0) (hk1 : k0 + l.length * 4 ≤ 8000000) (hown : MOwn w B V (pre ++ l ++ post)) (hpt : PartOf V pre.length l.length u) :
    Calls Tryd.prog 15 #[.agg #[.int .i64 cap, u], .int .i64 k0] w fun e w' =>
      e = .returned (.int .i64 (k0 + l.length * 4 : Nat)) ∧ MOwn w' B V (pre ++ mmarks k0 l.length ++ post) ∧ w.grownBy w' V.ownBlock := by
  have CK := Lib.hid (fun wx (h : MOwn wx B V (pre ++ l ++ post)) => markPart_any V u pre l post k0 B wx hk0 hk1 h hpt)
  have HO := Lib.hid hown
  obtain ⟨ua, uc, rfl⟩ := hpt.slice
  obtain ⟨m, hm⟩ : ∃ m, ((k0 + l.length * 4 : Nat) : Int) = m := ⟨_, rfl⟩
  rw [hm] at CK ⊢
  clear hown hm hpt
  go_enter Tryd.func15, Tryd.ntmps15
  go_wp2_with fail
  have ha := (Below.refl w.heap.size w).alloc (Nat.le_refl _) (.cells #[.int .i64 cap, .slice ua l.length uc] 29)
  refine (CK.out _ (row_below HO.out ha)).mono ?_
  rintro e w2 ⟨rfl, ho, hg⟩
  have HE := Lib.hid ho
  have HG := Lib.hid (grown_trans (grown_below ha) hg)
  clear ho hg ha CK
  go_wp2
  go_ret
  exact ⟨rfl, HE.out, HG.out⟩

/-- All that a walk wants of a ring whose items are a part. -/
theorem part_kitR {cap : Int} {V u : Value} {pre L post : List MsgM} (hp : PartOf V pre.length L.length u) (hl : 1 + L.length * 4 ≤ 8000000) :
    ∃ X Y : List MsgM, pre ++ L ++ post = X ∧ Y.length = X.length ∧ (∀ B wx, MOwn wx B V X → MsgsAt wx u L) ∧
      (∀ B wx, MOwn wx B V X → Calls Tryd.prog 15 #[.agg #[.int .i64 cap, u], .int .i64 ((1 : Nat) : Int)] wx fun e w' => e = .returned (.int .i64 (1 + L.length * 4 : Nat)) ∧ MOwn w' B V Y ∧ wx.grownBy w' V.ownBlock) ∧
      (∀ B wx, MOwn wx B V Y → MsgsAt wx u (mmarks 1 L.length)) :=
  ⟨pre ++ L ++ post, pre ++ mmarks 1 L.length ++ post, rfl, by simp [mmarks_length], fun _ _ h => part_at h hp, fun B wx h => markRingPart_any cap V u pre L post 1 B wx (Nat.le_refl _) hl h hp,
    fun _ _ h => part_at h (by rw [mmarks_length]; exact hp)⟩

structure PartRK (rc ky : Int) (V u : Value) (L X Y : List MsgM) : Prop where
  len : Y.length = X.length
  reads : ∀ B wx, MOwn wx B V X → MsgsAt wx u L
  mark : ∀ B wx, MOwn wx B V X → Calls Tryd.prog 15 #[.agg #[.int .i64 rc, u], .int .i64 ((1 : Nat) : Int)] wx fun e w' => e = .returned (.int .i64 ky) ∧ MOwn w' B V Y ∧ wx.grownBy w' V.ownBlock
  marked : ∀ B wx, MOwn wx B V Y → MsgsAt wx u (mmarks 1 L.length)

theorem part_kitRK {rc ky : Int} {V u : Value} {pre L post : List MsgM} (hp : PartOf V pre.length L.length u) (hl : 1 + L.length * 4 ≤ 8000000) (hk : ((1 + L.length * 4 : Nat) : Int) = ky) :
    ∃ X Y : List MsgM, pre ++ L ++ post = X ∧ PartRK rc ky V u L X Y := by
  obtain ⟨X, Y, h1, h2, h3, h4, h5⟩ := part_kitR (cap := rc) (post := post) hp hl
  rw [hk] at h4
  exact ⟨X, Y, h1, h2, h3, h4, h5⟩

end Go.Proofs.YtfdikopfpeiilaaDoor
