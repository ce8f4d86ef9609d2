/- Small texts, laid together. -/
import Derived.Shelf.Small.Bits
import Derived.Shelf.Small.Strs
import Derived.Shelf.Strconv.Itoa0
import Derived.Shelf.Strings.Search1
import Derived.Shelf.Strings.Search2
import Derived.Shelf.Strings.Search3
import Derived.Shelf.Strings.Count
import Derived.Shelf.Strings.Split
import Derived.Ground.SlgnProg
import Derived.Shelf.SortG.Plain
import Derived.Shelf.SortG.SortNone
import Derived.Shelf.SlicesG.CompactI
import Derived.Shelf.SlicesG.SearchI
import Derived.Shelf.SlicesG.Cells
import Derived.Test.YtmfbffhbgelnnaaGreatDoorProg
import Derived.Test.YtmfbffhbgelnnaaGreatDoorZB1
import Derived.BigQuiet
import Derived.Deep.RegionHeld
import Derived.Deep.QuietTactic
import Derived.Deep.LoopGhost
import Derived.Deep.Cut
import Derived.Lib.Hide
import Derived.Shelf.Abstract
import Derived.Test.YtmfbffhbgelnnaaGreatDoorRows
import Derived.WalkKit
import Derived.WalkSpells
import Derived.WalkLawsBesides
import Derived.Lib.OthersKept
import Derived.Lib.SmallJoins
import Derived.Shelf.SlSortCmp.KitK
set_option linter.unusedSimpArgs false
set_option linter.unusedVariables false
/- The library contract of strings.Split, laid at this translation: a table of numbers, one fact a field, one application. -/
namespace Go.Proofs
open Go.Shelf
def Tryz.laysSlN43_f102_ren : Go.Shelf.Ren := ⟨fun | 43 => 102 | n => n, fun | 22 => 45 | 23 => 2 | 3 => 3 | 4 => 4 | 0 => 0 | n => n, fun | n => n⟩
theorem Tryz.laysSlN43_f102 : Go.Proofs.SlLaysN.n43 Tryz.prog Tryz.laysSlN43_f102_ren := {
  mixed := by kernel_rfl
  f43 := ⟨Tryz.f102.name, by decide, Tryz.func102.trans (congrArg some (by kernel_rfl))⟩
  t0 := Tryz.underlying0
  a0 := Tryz.isAgg0
  z0 := Tryz.sizeOf0
  v0 := Tryz.zeroValue0
  t3 := Tryz.underlying3
  a3 := Tryz.isAgg3
  z3 := Tryz.sizeOf3
  v3 := Tryz.zeroValue3
  t4 := Tryz.underlying4
  a4 := Tryz.isAgg4
  z4 := Tryz.sizeOf4
  v4 := Tryz.zeroValue4
  t22 := Tryz.underlying45
  a22 := Tryz.isAgg45
  z22 := Tryz.sizeOf45
  v22 := Tryz.zeroValue45
  t23 := Tryz.underlying2
  a23 := Tryz.isAgg2
  z23 := Tryz.sizeOf2
  v23 := Tryz.zeroValue2
  i23 := by kernel_rfl }
open Go.RowKit Go.Lib Go.Sort in
theorem Tryz.slices_Compact_int (blk off cap : Nat) (zs : List Int) (w : World) (hH : Holds (Value.int .i64) w blk off zs.toArray) (hsz : zs.length ≤ 9223372036854775807) (hcap : zs.length ≤ cap) :
    Calls Tryz.prog 102 #[.slice (some ⟨blk, off, none⟩) zs.length cap] w fun e w' => e = .returned (.slice (some ⟨blk, off, none⟩) (Lib.compact zs).length cap) ∧ ∃ q, w' = putRow (Value.int .i64) (Sort.ahead w q) blk off (Lib.compact zs ++ List.replicate (zs.length - (Lib.compact zs).length) 0).toArray := AnyG.slices_Compact_int Tryz.laysSlN43_f102 blk off cap zs w hH hsz hcap
open Go.RowKit Go.Lib Go.Sort in
theorem Tryz.slices_Compact_int_empty (a : Option Addr) (cap : Nat) (w : World) :
    Calls Tryz.prog 102 #[.slice a 0 cap] w fun e w' => e = .returned (.slice a 0 cap) ∧ w' = w := AnyG.slices_Compact_int_empty Tryz.laysSlN43_f102 a cap w
def Tryz.laysSlN53_ren : Go.Shelf.Ren := ⟨fun | 53 => 101 | 64 => 128 | 63 => 127 | 78 => 154 | 79 => 155 | 70 => 145 | 71 => 146 | 72 => 147 | 73 => 148 | 74 => 149 | 75 => 150 | 59 => 151 | 76 => 152 | 77 => 153 | 88 => 173 | 89 => 174 | 90 => 175 | 91 => 176 | 92 => 177 | 68 => 165 | 96 => 188 | n => n, fun | 22 => 45 | 23 => 2 | 3 => 3 | 51 => 151 | 0 => 0 | 67 => 171 | 69 => 173 | 4 => 4 | 61 => 164 | 60 => 163 | 44 => 168 | 5 => 5 | 9 => 9 | 75 => 186 | 79 => 190 | 83 => 207 | 84 => 208 | n => n, fun | n => n⟩
theorem Tryz.laysSlN53 : Go.Proofs.SlLaysN.n53 Tryz.prog Tryz.laysSlN53_ren := {
  mixed := by kernel_rfl
  f53 := ⟨Tryz.f101.name, by decide, Tryz.func101.trans (congrArg some (by kernel_rfl))⟩
  f59 := ⟨Tryz.f151.name, by decide, Tryz.func151.trans (congrArg some (by kernel_rfl))⟩
  f63 := ⟨Tryz.f127.name, by decide, Tryz.func127.trans (congrArg some (by kernel_rfl))⟩
  f64 := Tryz.func128.trans (congrArg some (by kernel_rfl))
  f68 := ⟨Tryz.f165.name, by decide, Tryz.func165.trans (congrArg some (by kernel_rfl))⟩
  f70 := ⟨Tryz.f145.name, by decide, Tryz.func145.trans (congrArg some (by kernel_rfl))⟩
  f71 := ⟨Tryz.f146.name, by decide, Tryz.func146.trans (congrArg some (by kernel_rfl))⟩
  f72 := ⟨Tryz.f147.name, by decide, Tryz.func147.trans (congrArg some (by kernel_rfl))⟩
  f73 := ⟨Tryz.f148.name, by decide, Tryz.func148.trans (congrArg some (by kernel_rfl))⟩
  f74 := ⟨Tryz.f149.name, by decide, Tryz.func149.trans (congrArg some (by kernel_rfl))⟩
  f75 := ⟨Tryz.f150.name, by decide, Tryz.func150.trans (congrArg some (by kernel_rfl))⟩
  f76 := ⟨Tryz.f152.name, by decide, Tryz.func152.trans (congrArg some (by kernel_rfl))⟩
  f77 := ⟨Tryz.f153.name, by decide, Tryz.func153.trans (congrArg some (by kernel_rfl))⟩
  f78 := Tryz.func154.trans (congrArg some (by kernel_rfl))
  f79 := Tryz.func155.trans (congrArg some (by kernel_rfl))
  f88 := ⟨Tryz.f173.name, by decide, Tryz.func173.trans (congrArg some (by kernel_rfl))⟩
  f89 := Tryz.func174.trans (congrArg some (by kernel_rfl))
  f90 := Tryz.func175.trans (congrArg some (by kernel_rfl))
  f91 := ⟨Tryz.f176.name, by decide, Tryz.func176.trans (congrArg some (by kernel_rfl))⟩
  f92 := ⟨Tryz.f177.name, by decide, Tryz.func177.trans (congrArg some (by kernel_rfl))⟩
  f96 := ⟨Tryz.f188.name, by decide, Tryz.func188.trans (congrArg some (by kernel_rfl))⟩
  t0 := Tryz.underlying0
  a0 := Tryz.isAgg0
  z0 := Tryz.sizeOf0
  v0 := Tryz.zeroValue0
  t3 := Tryz.underlying3
  a3 := Tryz.isAgg3
  z3 := Tryz.sizeOf3
  v3 := Tryz.zeroValue3
  t4 := Tryz.underlying4
  a4 := Tryz.isAgg4
  z4 := Tryz.sizeOf4
  v4 := Tryz.zeroValue4
  t5 := Tryz.underlying5
  a5 := Tryz.isAgg5
  z5 := Tryz.sizeOf5
  v5 := Tryz.zeroValue5
  t9 := Tryz.underlying9
  a9 := Tryz.isAgg9
  z9 := Tryz.sizeOf9
  v9 := Tryz.zeroValue9
  t22 := Tryz.underlying45
  a22 := Tryz.isAgg45
  z22 := Tryz.sizeOf45
  v22 := Tryz.zeroValue45
  t23 := Tryz.underlying2
  a23 := Tryz.isAgg2
  z23 := Tryz.sizeOf2
  v23 := Tryz.zeroValue2
  t44 := Tryz.underlying168
  a44 := Tryz.isAgg168
  z44 := Tryz.sizeOf168
  v44 := Tryz.zeroValue168
  t51 := Tryz.underlying151
  a51 := Tryz.isAgg151
  z51 := Tryz.sizeOf151
  v51 := Tryz.zeroValue151
  t60 := Tryz.underlying163
  a60 := Tryz.isAgg163
  z60 := Tryz.sizeOf163
  v60 := Tryz.zeroValue163
  t61 := Tryz.underlying164
  a61 := Tryz.isAgg164
  z61 := Tryz.sizeOf164
  v61 := Tryz.zeroValue164
  t67 := Tryz.underlying171
  a67 := Tryz.isAgg171
  z67 := Tryz.sizeOf171
  v67 := Tryz.zeroValue171
  t69 := Tryz.underlying173
  a69 := Tryz.isAgg173
  z69 := Tryz.sizeOf173
  v69 := Tryz.zeroValue173
  t75 := Tryz.underlying186
  a75 := Tryz.isAgg186
  z75 := Tryz.sizeOf186
  v75 := Tryz.zeroValue186
  t79 := Tryz.underlying190
  a79 := Tryz.isAgg190
  z79 := Tryz.sizeOf190
  v79 := Tryz.zeroValue190
  t83 := Tryz.underlying207
  a83 := Tryz.isAgg207
  z83 := Tryz.sizeOf207
  v83 := Tryz.zeroValue207
  t84 := Tryz.underlying208
  a84 := Tryz.isAgg208
  z84 := Tryz.sizeOf208
  v84 := Tryz.zeroValue208 }
open Go.RowKit Go.Lib Go.Sort in
theorem Tryz.slices_Sort_int (blk off cap : Nat) (zs : List Int) (w : World) (hH : Holds (Value.int .i64) w blk off zs.toArray) (hblk : blk < w.heap.size) (hsz : zs.length < 4611686018427387904) :
    Calls Tryz.prog 101 #[.slice (some ⟨blk, off, none⟩) zs.length cap] w fun e w' => e = .returned (.tuple #[]) ∧ ∃ n os, w' = grow (putRow (Value.int .i64) (Sort.ahead w n) blk off (zs.mergeSort fun x y => decide (x ≤ y)).toArray) os := AnyG.slices_Sort_int Tryz.laysSlN53 blk off cap zs w hH hblk hsz
open Go.RowKit Go.Lib Go.Sort in
theorem Tryz.slices_Sort_int_none (p : Option Addr) (cap : Nat) (w : World) :
    Calls Tryz.prog 101 #[.slice p 0 cap] w fun e w' => e = .returned (.tuple #[]) ∧ w' = w := AnyG.slices_Sort_int_none Tryz.laysSlN53 p cap w
end Go.Proofs

/- The walks of the exact laws' measures of knots, and of their looks whether two rows of knots are alike. -/
namespace Go.Proofs.YtmfbffhbgelnnaaGreatDoor
open Go.RowKit

/-- What is left behind n more. -/
def szI (n : Nat) (left : Int) : Int := if left - n < 0 then -1 else left - n
def szK (x : KnotM) (left : Int) : Int := if left - x.1.size < 0 then -1 else szI x.2.length (left - x.1.size)
def szTo : List KnotM → Int → Int
  | [], a => a
  | x :: l, a => if szK x a < 0 then -1 else szTo l (szK x a)
def szKs (l : List KnotM) (left : Int) : Int := if left - l.length < 0 then -1 else szTo l (left - l.length)

theorem szI_le (n : Nat) (a : Int) (h : 0 ≤ a) : szI n a ≤ a := by unfold szI; split <;> omega
theorem szK_le (x : KnotM) (a : Int) (h : 0 ≤ a) : szK x a ≤ a := by
  unfold szK; split
  · omega
  · have := szI_le x.2.length (a - x.1.size) (by omega); omega
theorem szK_small {x : KnotM} {a : Int} (h : 0 ≤ szK x a) : (x.1.size : Int) ≤ a ∧ (x.2.length : Int) ≤ a := by
  unfold szK szI at h; split at h
  · omega
  · split at h <;> omega
theorem szTo_small : ∀ {l : List KnotM} {a : Int}, 0 ≤ a → 0 ≤ szTo l a → ∀ x ∈ l, (x.1.size : Int) ≤ a ∧ (x.2.length : Int) ≤ a
  | x :: l, a, h0, h, y, hy => by
    unfold szTo at h
    split at h
    · omega
    · rename_i h2
      have h3 : 0 ≤ szK x a := by omega
      have h4 := szK_le x a h0
      rcases List.mem_cons.1 hy with rfl | hy
      · exact szK_small h3
      · have := szTo_small h3 h y hy; omega
theorem szKs_small {l : List KnotM} {a : Int} (h0 : 0 ≤ a) (h : 0 ≤ szKs l a) : (l.length : Int) ≤ a ∧ ∀ x ∈ l, (x.1.size : Int) ≤ a ∧ (x.2.length : Int) ≤ a := by
  unfold szKs at h
  split at h
  · omega
  · exact ⟨by omega, fun x hx => by have := szTo_small (by omega) h x hx; omega⟩

set_option maxRecDepth 100000 in
set_option maxHeartbeats 400000 in
theorem szInts_any (v : Value) (l : List Int) (left : Int) (w : World) (h0 : 0 ≤ left) (h1 : left ≤ 1048576) (hv : IntsAt w v l) :
    Calls Tryz.prog 106 #[v, .int .i64 left] w fun e w' => e = .returned (.int .i64 (szI l.length left)) ∧ w = w' := by
  obtain ⟨a, c, rfl, hc1, hc2, _⟩ := hv
  obtain ⟨n, hn⟩ : ∃ n, l.length = n := ⟨_, rfl⟩
  rw [hn] at hc1 ⊢
  unfold maxLen at hc2
  have g1 : IntKind.i64.wrap (left - n) = left - n := by rw [IntKind.wrap_i64]; omega
  by_cases h : left - n < 0
  · have HE : Hid (szI n left = -1) := Lib.hid (by unfold szI; rw [if_pos h])
    have g2 : decide (left - n < 0) = true := decide_eq_true h
    clear hc1 hc2 hn
    go_enter Tryz.func106, Tryz.ntmps106
    go_wp2
    go_ret
    exact ⟨ret_int HE.out.symm, rfl⟩
  · have HE : Hid (szI n left = left - n) := Lib.hid (by unfold szI; rw [if_neg h])
    have g2 : decide (left - n < 0) = false := decide_eq_false h
    clear hc1 hc2 hn
    go_enter Tryz.func106, Tryz.ntmps106
    go_wp2
    go_ret
    exact ⟨ret_int HE.out.symm, rfl⟩

theorem szI_two (n : Nat) (a : Int) (_h : 0 ≤ a) : (szI n a < 0 ∧ szI n a = -1) ∨ ¬ szI n a < 0 := by unfold szI; split <;> omega

set_option maxRecDepth 100000 in
set_option maxHeartbeats 400000 in
theorem szKnot_any (v : Value) (x : KnotM) (left : Int) (w : World) (h0 : 0 ≤ left) (h1 : left ≤ 1048576) (hp : x.1.size ≤ maxLen) (hv : IntsAt w v x.2) :
    Calls Tryz.prog 64 #[.agg #[.string x.1, v], .int .i64 left] w fun e w' => e = .returned (.int .i64 (szK x left)) ∧ Below w.heap.size w w' := by
  obtain ⟨p, ids⟩ := x
  obtain ⟨n, hn⟩ : ∃ n, p.size = n := ⟨_, rfl⟩
  have HN := Lib.hid hn
  have hp : n ≤ maxLen := hn ▸ hp
  unfold maxLen at hp
  have HV := Lib.hid hv
  obtain ⟨ua, uc, rfl, _, _, _⟩ := hv
  have g1 : IntKind.i64.wrap (left - p.size) = left - p.size := by rw [IntKind.wrap_i64, hn]; omega
  by_cases h : left - p.size < 0
  · have HE : Hid (szK (p, ids) left = -1) := Lib.hid (by unfold szK; rw [if_pos h])
    have g2 : decide (left - p.size < 0) = true := decide_eq_true h
    clear hp hn HN
    go_enter Tryz.func64, Tryz.ntmps64
    go_wp2
    go_ret
    exact ⟨ret_int HE.out.symm, (Below.refl _ _).alloc (Nat.le_refl _) _⟩
  · have HE : Hid (szK (p, ids) left = szI ids.length (left - p.size)) := Lib.hid (by unfold szK; rw [if_neg h])
    have g2 : decide (left - p.size < 0) = false := decide_eq_false h
    have CS := Lib.hid (fun wx (h : IntsAt wx (.slice ua ids.length uc) ids) => szInts_any _ ids (left - p.size) wx (by omega) (by omega) h)
    have H2 := Lib.hid (szI_two ids.length (left - p.size) (by omega))
    obtain ⟨r, hr⟩ : ∃ r, szI ids.length (left - p.size) = r := ⟨_, rfl⟩
    rw [hr] at CS H2 HE
    clear hp hn HN hr h
    go_enter Tryz.func64, Tryz.ntmps64
    go_wp2_with fail
    refine (CS.out _ (HV.out.alloc _)).mono ?_
    rintro e w2 ⟨rfl, rfl⟩
    rcases H2.out with ⟨h3, h4⟩ | h3
    · have g3 : decide (r < 0) = true := decide_eq_true h3
      subst h4
      clear H2 h3
      go_wp2
      go_ret
      exact ⟨ret_int HE.out.symm, (Below.refl _ _).alloc (Nat.le_refl _) _⟩
    · have g3 : decide (r < 0) = false := decide_eq_false (by omega)
      clear H2 h3
      go_wp2
      go_ret
      exact ⟨ret_int HE.out.symm, (Below.refl _ _).alloc (Nat.le_refl _) _⟩

set_option maxRecDepth 100000 in
set_option maxHeartbeats 800000 in
theorem szKnots_any (v : Value) (l : List KnotM) (left : Int) (w : World) (h0 : 0 ≤ left) (h1 : left ≤ 1048576) (hs : ∀ x ∈ l, x.1.size ≤ maxLen) (hv : KnotsAt w v l) :
    Calls Tryz.prog 24 #[v, .int .i64 left] w fun e w' => e = .returned (.int .i64 (szKs l left)) ∧ Below w.heap.size w w' := by
  obtain ⟨a, c, rfl, hc1, hc2, hc3⟩ := hv
  have HC := Lib.hid hc3
  have HS := Lib.hid hs
  unfold maxLen at hc2
  have g1 : IntKind.i64.wrap (left - l.length) = left - l.length := by rw [IntKind.wrap_i64]; omega
  clear hc3 hs
  by_cases h : left - l.length < 0
  · have HE : Hid (szKs l left = -1) := Lib.hid (by unfold szKs; rw [if_pos h])
    have g2 : decide (left - l.length < 0) = true := decide_eq_true h
    clear hc1 hc2
    go_enter Tryz.func24, Tryz.ntmps24
    go_wp2
    go_ret
    exact ⟨ret_int HE.out.symm, Below.refl _ _⟩
  · have HE : Hid (szKs l left = szTo l (left - l.length)) := Lib.hid (by unfold szKs; rw [if_neg h])
    have g2 : decide (left - l.length < 0) = false := decide_eq_false h
    go_enter Tryz.func24, Tryz.ntmps24
    go_wp2
    go_loopw [1, 5] (fun lv i wr => ∃ (k : Nat) (q : Int), k ≤ l.length ∧ i = .int .i64 k ∧ lv = .int .i64 q ∧ 0 ≤ q ∧ q ≤ 1048576 ∧ Hid (szTo l (left - l.length) = szTo (l.drop k) q) ∧ Hid (Below w.heap.size w wr)) (fun _ i _ => l.length - (intOf i).toNat)
    case atStart => exact ⟨0, _, Nat.zero_le _, rfl, rfl, by omega, by omega, rfl, Below.refl _ _⟩
    case round =>
      obtain ⟨k, q, hk, rfl, rfl, hq0, hq1, HR, HB⟩ := hrel
      by_cases hlt : k < l.length
      · obtain ⟨b, o, rfl, hin⟩ : ∃ b o, a = some ⟨b, o, none⟩ ∧ KnotsIn w b o l := by
          rcases HC.out with h | h
          · subst h; simp at hlt
          · exact h
        obtain ⟨hp, u0, hu0, hids⟩ := (hin.below HB.out) k hlt
        have CZ := Lib.hid (szKnot_any u0 l[k] q wr hq0 hq1 (HS.out _ (List.getElem_mem hlt)) hids)
        obtain ⟨ua, uc, rfl, _, _, _⟩ := hids
        have HD : Hid (szTo (l.drop k) q = if szK l[k] q < 0 then -1 else szTo (l.drop (k + 1)) (szK l[k] q)) := Lib.hid (by rw [List.drop_eq_getElem_cons hlt]; rfl)
        have hle := szK_le l[k] q hq0
        obtain ⟨x, hx⟩ : ∃ x, l[k] = x := ⟨_, rfl⟩
        rw [hx] at hp hu0 CZ HD hle
        clear hin hx
        obtain ⟨r, hr⟩ : ∃ r, szK x q = r := ⟨_, rfl⟩
        rw [hr] at CZ HD hle
        clear hr
        go_wp2_with fail
        refine CZ.out.mono ?_
        clear CZ
        rintro e w2 ⟨rfl, hb⟩
        have HB2 := Lib.hid (below_end HB.out hb)
        clear hb HB
        by_cases h3 : r < 0
        · have g3 : decide (r < 0) = true := decide_eq_true h3
          have HF : Hid (szKs l left = -1) := Lib.hid (by rw [HE.out, HR.out, HD.out, if_pos h3])
          clear HE HR HD
          go_wp2
          go_ret
          exact ⟨ret_int HF.out.symm, HB2.out⟩
        · have g3 : decide (r < 0) = false := decide_eq_false h3
          have HN : Hid (szTo l (left - l.length) = szTo (l.drop (k + 1)) r) := Lib.hid (by rw [HR.out, HD.out, if_neg h3])
          have h4 : 0 ≤ r := by omega
          have h5 : r ≤ 1048576 := by omega
          clear HE HR HD
          go_wp2
          go_roundw
          case rel => exact ⟨k + 1, r, by omega, by go_num, rfl, h4, h5, HN, HB2⟩
          case measure => simp [intOf]; omega
      · obtain rfl : k = l.length := by omega
        have HF : Hid (szKs l left = q) := Lib.hid (by rw [HE.out, HR.out, List.drop_length]; rfl)
        go_wp2
        go_ret
        exact ⟨ret_int HF.out.symm, HB.out⟩

end Go.Proofs.YtmfbffhbgelnnaaGreatDoor

/- The walks of the exact laws' looks whether two rows of knots are alike. -/
namespace Go.Proofs.YtmfbffhbgelnnaaGreatDoor
open Go.RowKit

set_option maxRecDepth 100000 in
set_option maxHeartbeats 400000 in
theorem eqInts_any (va vb : Value) (l : List Int) (w : World) (hl : l.length ≤ 4000000) (ha : IntsAt w va l) (hb : IntsAt w vb l) :
    Calls Tryz.prog 18 #[va, vb] w fun e w' => e = .returned (.bool true) ∧ Below w.heap.size w w' := by
  obtain ⟨a, c, rfl, _, _, ha3⟩ := ha
  obtain ⟨b, d, rfl, _, _, hb3⟩ := hb
  have HA := Lib.hid ha3
  have HB := Lib.hid hb3
  clear ha3 hb3
  go_enter Tryz.func18, Tryz.ntmps18
  go_wp2
  go_loopw [5] (fun i wr => ∃ k : Nat, k ≤ l.length ∧ i = .int .i64 k ∧ Hid (∃ n, wr = w.drewN n)) (fun i _ => l.length - (intOf i).toNat)
  case atStart => exact ⟨0, Nat.zero_le _, rfl, 0, rfl⟩
  case round =>
    obtain ⟨k, hk, rfl, HW⟩ := hrel
    obtain ⟨n, rfl⟩ := HW.out
    clear HW
    by_cases hlt : k < l.length
    · obtain ⟨ga, oa, rfl, hia⟩ : ∃ b o, a = some ⟨b, o, none⟩ ∧ IntsIn w b o l := by
        rcases HA.out with h | h
        · subst h; simp at hlt
        · exact h
      obtain ⟨gb, ob, rfl, hib⟩ : ∃ g o, b = some ⟨g, o, none⟩ ∧ IntsIn w g o l := by
        rcases HB.out with h | h
        · subst h; simp at hlt
        · exact h
      have h1 := hia k hlt
      have h2 := hib k hlt
      obtain ⟨x, hx⟩ : ∃ x, l[k] = x := ⟨_, rfl⟩
      rw [hx] at h1 h2
      clear hia hib hx
      go_wp2
      go_quiet (fail)
      go_wp2
      go_roundw
      case rel => exact ⟨k + 1, by omega, by go_num, _, rfl⟩
      case measure => simp [intOf]; omega
    · go_wp2
      go_ret
      exact ⟨rfl, below_drewN (Below.refl _ _) _⟩

set_option maxRecDepth 100000 in
set_option maxHeartbeats 400000 in
theorem eqKnot_any (va vb : Value) (x : KnotM) (w : World) (hl : x.2.length ≤ 4000000) (ha : IntsAt w va x.2) (hb : IntsAt w vb x.2) :
    Calls Tryz.prog 93 #[.agg #[.string x.1, va], .agg #[.string x.1, vb]] w fun e w' => e = .returned (.bool true) ∧ Below w.heap.size w w' := by
  obtain ⟨p, l⟩ := x
  have HA := Lib.hid ha
  have HB := Lib.hid hb
  obtain ⟨ua, uc, rfl, _, _, _⟩ := ha
  obtain ⟨ub, ud, rfl, _, _, _⟩ := hb
  have CE := Lib.hid (fun wx (h1 : IntsAt wx (.slice ua l.length uc) l) (h2 : IntsAt wx (.slice ub l.length ud) l) => eqInts_any _ _ l wx hl h1 h2)
  go_enter Tryz.func93, Tryz.ntmps93
  go_wp2_with fail
  have hb2 : Below w.heap.size w ((w.alloc (.cells #[.string p, .slice ua l.length uc] 98)).alloc (.cells #[.string p, .slice ub l.length ud] 98)) := ((Below.refl _ _).alloc (Nat.le_refl _) _).alloc (by simp) _
  refine (CE.out _ (HA.out.below hb2) (HB.out.below hb2)).mono ?_
  rintro e w2 ⟨rfl, hb⟩
  have HE := Lib.hid (below_end hb2 hb)
  clear hb2 hb
  go_wp2
  go_ret
  exact ⟨rfl, HE.out⟩

set_option maxRecDepth 100000 in
set_option maxHeartbeats 400000 in
theorem eqKnots_any (va vb : Value) (l : List KnotM) (w : World) (hl : l.length ≤ 4000000) (hs : ∀ x ∈ l, x.2.length ≤ 4000000) (ha : KnotsAt w va l) (hb : KnotsAt w vb l) :
    Calls Tryz.prog 48 #[va, vb] w fun e w' => e = .returned (.bool true) ∧ Below w.heap.size w w' := by
  obtain ⟨a, c, rfl, _, _, ha3⟩ := ha
  obtain ⟨b, d, rfl, _, _, hb3⟩ := hb
  have HA := Lib.hid ha3
  have HB := Lib.hid hb3
  have HS := Lib.hid hs
  clear ha3 hb3 hs
  go_enter Tryz.func48, Tryz.ntmps48
  go_wp2
  go_loopw [5] (fun i wr => ∃ k : Nat, k ≤ l.length ∧ i = .int .i64 k ∧ Hid (Below w.heap.size w wr)) (fun i _ => l.length - (intOf i).toNat)
  case atStart => exact ⟨0, Nat.zero_le _, rfl, Below.refl _ _⟩
  case round =>
    obtain ⟨k, hk, rfl, HW⟩ := hrel
    by_cases hlt : k < l.length
    · obtain ⟨ga, oa, rfl, hia⟩ : ∃ b o, a = some ⟨b, o, none⟩ ∧ KnotsIn w b o l := by
        rcases HA.out with h | h
        · subst h; simp at hlt
        · exact h
      obtain ⟨gb, ob, rfl, hib⟩ : ∃ g o, b = some ⟨g, o, none⟩ ∧ KnotsIn w g o l := by
        rcases HB.out with h | h
        · subst h; simp at hlt
        · exact h
      obtain ⟨p1, u1, q1, i1⟩ := (hia.below HW.out) k hlt
      obtain ⟨p2, u2, q2, i2⟩ := (hib.below HW.out) k hlt
      have CE := Lib.hid (fun wx (h1 : IntsAt wx u1 l[k].2) (h2 : IntsAt wx u2 l[k].2) => eqKnot_any u1 u2 l[k] wx (HS.out _ (List.getElem_mem hlt)) h1 h2)
      have I1 := Lib.hid i1
      have I2 := Lib.hid i2
      obtain ⟨ua, uc, rfl, _, _, _⟩ := i1
      obtain ⟨ub, ud, rfl, _, _, _⟩ := i2
      obtain ⟨x, hx⟩ : ∃ x, l[k] = x := ⟨_, rfl⟩
      rw [hx] at p1 p2 q1 q2 CE I1 I2
      clear hia hib hx
      go_wp2_with fail
      refine wp_region_held_drew (S := fun wx => wx.cell? ⟨ga, oa + k * 2, none⟩ = some (.string x.1) ∧ wx.cell? ⟨ga, oa + k * 2 + 1, none⟩ = some (.slice ua x.2.length uc) ∧ wx.cell? ⟨gb, ob + k * 2, none⟩ = some (.string x.1) ∧ wx.cell? ⟨gb, ob + k * 2 + 1, none⟩ = some (.slice ub x.2.length ud) ∧ Hid (Below wr.heap.size wr wx)) (by kernel_rfl) ?_ (fun hHeld => ?_)
      · exact ⟨p1, q1, p2, q2, Lib.hid (Below.refl _ _).drew⟩
      change wpAnyH _ _ _ _ _ 10 #[false, false, false, false, false, false, false, false, false, false] _ _
      clear p1 q1 p2 q2
      refine wpAnyH_take (i := 0) (v := ?_) rfl (by kernel_rfl) (by kernel_rfl) (by kernel_rfl) (fun _ _ _ h => h) (Or.inl ⟨by rfl, ?_⟩) (by assumption) ?_
      rotate_left
      · intro w hSw; (try dsimp only at hSw); go_simp; try with_reducible rfl
      try simp only [Act.put, List.getElem_toArray, List.getElem_cons_succ, List.getElem_cons_zero, List.setIfInBounds_toArray, List.set_cons_zero, List.set_cons_succ]
      refine wpAnyH_take (i := 1) (v := ?_) rfl (by kernel_rfl) (by kernel_rfl) (by kernel_rfl) (fun _ _ _ h => h) (Or.inl ⟨by rfl, ?_⟩) (by assumption) ?_
      rotate_left
      · intro w hSw; (try dsimp only at hSw); go_simp; try with_reducible rfl
      try simp only [Act.put, List.getElem_toArray, List.getElem_cons_succ, List.getElem_cons_zero, List.setIfInBounds_toArray, List.set_cons_zero, List.set_cons_succ]
      refine wpAnyH_take (i := 2) (v := ?_) rfl (by kernel_rfl) (by kernel_rfl) (by kernel_rfl) (fun _ _ _ h => h) (Or.inl ⟨by rfl, ?_⟩) (by assumption) ?_
      rotate_left
      · intro w hSw; (try dsimp only at hSw); go_simp; try with_reducible rfl
      try simp only [Act.put, List.getElem_toArray, List.getElem_cons_succ, List.getElem_cons_zero, List.setIfInBounds_toArray, List.set_cons_zero, List.set_cons_succ]
      refine wpAnyH_take (i := 3) (v := ?_) rfl (by kernel_rfl) (by kernel_rfl) (by kernel_rfl) (fun _ _ _ h => h) (Or.inl ⟨by rfl, ?_⟩) (by assumption) ?_
      rotate_left
      · intro w hSw; (try dsimp only at hSw); go_simp; try with_reducible rfl
      try simp only [Act.put, List.getElem_toArray, List.getElem_cons_succ, List.getElem_cons_zero, List.setIfInBounds_toArray, List.set_cons_zero, List.set_cons_succ]
      refine wpAnyH_take (i := 4) (v := ?_) rfl (by kernel_rfl) (by kernel_rfl) (by kernel_rfl) (fun _ _ _ h => h) (Or.inl ⟨by rfl, ?_⟩) (by assumption) ?_
      rotate_left
      · intro w hSw; (try dsimp only at hSw); go_simp; try with_reducible rfl
      try simp only [Act.put, List.getElem_toArray, List.getElem_cons_succ, List.getElem_cons_zero, List.setIfInBounds_toArray, List.set_cons_zero, List.set_cons_succ]
      refine wpAnyH_take (i := 5) (v := ?_) rfl (by kernel_rfl) (by kernel_rfl) (by kernel_rfl) (fun _ _ _ h => h) (Or.inl ⟨by rfl, ?_⟩) (by assumption) ?_
      rotate_left
      · intro w hSw; (try dsimp only at hSw); go_simp; try with_reducible rfl
      try simp only [Act.put, List.getElem_toArray, List.getElem_cons_succ, List.getElem_cons_zero, List.setIfInBounds_toArray, List.set_cons_zero, List.set_cons_succ]
      refine wpAnyH_take (i := 6) (v := ?_) rfl (by kernel_rfl) (by kernel_rfl) (by kernel_rfl) (fun _ _ _ h => h) (Or.inl ⟨by rfl, ?_⟩) (by assumption) ?_
      rotate_left
      · intro w hSw; (try dsimp only at hSw); go_simp; try with_reducible rfl
      try simp only [Act.put, List.getElem_toArray, List.getElem_cons_succ, List.getElem_cons_zero, List.setIfInBounds_toArray, List.set_cons_zero, List.set_cons_succ]
      refine wpAnyH_take (i := 7) (v := ?_) rfl (by kernel_rfl) (by kernel_rfl) (by kernel_rfl) (fun _ _ _ h => h) (Or.inl ⟨by rfl, ?_⟩) (by assumption) ?_
      rotate_left
      · intro w hSw; (try dsimp only at hSw); go_simp; try with_reducible rfl
      try simp only [Act.put, List.getElem_toArray, List.getElem_cons_succ, List.getElem_cons_zero, List.setIfInBounds_toArray, List.set_cons_zero, List.set_cons_succ]
      refine wpAnyH_ready (rs := [8]) (by kernel_rfl) (by simp) (AllReadyH.cons rfl (fun K hK => ?_) AllReadyH.nil)
      rw [if_pos (by rfl)]
      go_simp; go_at_call 93; refine (CE.out _ (I1.out.below (Below.refl _ _).drew) (I2.out.below (Below.refl _ _).drew)).mono ?_; rintro e wa ⟨rfl, hb⟩; go_wp2_with fail
      refine hK.out _ _ ?_ (fun hHeld => ?_)
      · exact ⟨(below_cell hb (World.block_lt_of_cell? _ _ hHeld.1)).trans hHeld.1, (below_cell hb (World.block_lt_of_cell? _ _ hHeld.2.1)).trans hHeld.2.1, (below_cell hb (World.block_lt_of_cell? _ _ hHeld.2.2.1)).trans hHeld.2.2.1, (below_cell hb (World.block_lt_of_cell? _ _ hHeld.2.2.2.1)).trans hHeld.2.2.2.1, Lib.hid (below_end hHeld.2.2.2.2.out hb)⟩
      clear hK K
      try simp only [Act.put, List.getElem_toArray, List.getElem_cons_succ, List.getElem_cons_zero, List.setIfInBounds_toArray, List.set_cons_zero, List.set_cons_succ]
      refine wpAnyH_take (i := 9) (v := ?_) rfl (by kernel_rfl) (by kernel_rfl) (by kernel_rfl) (fun _ _ _ h => h) (Or.inl ⟨by rfl, ?_⟩) (by assumption) ?_
      rotate_left
      · intro w hSw; (try dsimp only at hSw); go_simp; try with_reducible rfl
      try simp only [Act.put, List.getElem_toArray, List.getElem_cons_succ, List.getElem_cons_zero, List.setIfInBounds_toArray, List.set_cons_zero, List.set_cons_succ]
      refine wpAnyH_done (by kernel_rfl) ?_ _
      have HN := Lib.hid (below_end HW.out hHeld.2.2.2.2.out)
      clear hHeld HW
      go_wp2
      go_roundw
      case rel => exact ⟨k + 1, by omega, by go_num, HN⟩
      case measure => simp [intOf]; omega
    · go_wp2
      go_ret
      exact ⟨rfl, HW.out⟩

end Go.Proofs.YtmfbffhbgelnnaaGreatDoor

/- Plain mathematics of chapter 3: a right trie. -/
namespace Go.Proofs.YtmfbffhbgelnnaaGreatDoor

/-- a is ahead of b, or b itself. -/
def leB (a b : ByteArray) : Bool := Op.bytesLess a.toList b.toList || a.toList == b.toList

def knot0 : KnotM := (⟨#[]⟩, [])

/-- Is the k-th knot as it should be? -/
def knotOk (l : List KnotM) (p q : KnotM) : Bool :=
  !(leB q.1 p.1) && (filterP (parts q.1 47) && (rises q.2 && (decide (0 ≤ find l (above q.1)) && (!(q.2.isEmpty) || childB l q.1))))

def knotsTo (l : List KnotM) (k : Nat) : Bool := (List.range k).all fun j => decide (j = 0) || knotOk l (l.getD (j - 1) knot0) (l.getD j knot0)

def headOk (l : List KnotM) : Bool := match l with
  | [] => false
  | x :: _ => x.1.toList == [] && x.2.isEmpty

/-- 'TrieOk'. -/
def trieB (l : List KnotM) : Bool := headOk l && knotsTo l l.length

theorem knotsTo_succ (l : List KnotM) (k : Nat) : knotsTo l (k + 1) = (knotsTo l k && (decide (k = 0) || knotOk l (l.getD (k - 1) knot0) (l.getD k knot0))) := by
  unfold knotsTo; rw [List.range_succ, List.all_append]; simp

theorem knot_at {l : List KnotM} {k : Nat} (h : k < l.length) : l.getD k knot0 = l[k] := by rw [List.getD_eq_getElem?_getD, List.getElem?_eq_getElem h]; rfl

theorem knotsTo_next {l : List KnotM} {k : Nat} (h1 : 1 ≤ k) (h : k < l.length) (hl : knotsTo l k = true) (hk : knotOk l (l[k - 1]'(by omega)) l[k] = true) : knotsTo l (k + 1) = true := by
  rw [knotsTo_succ, hl, knot_at (by omega), knot_at h, hk]; simp

theorem knotsTo_bad {l : List KnotM} {k : Nat} (h1 : 1 ≤ k) (h : k < l.length) (hk : knotOk l (l[k - 1]'(by omega)) l[k] = false) : trieB l = false := by
  cases e : trieB l
  · rfl
  · unfold trieB at e
    rw [Bool.and_eq_true] at e
    have e2 := e.2
    unfold knotsTo at e2
    rw [List.all_eq_true] at e2
    have := e2 k (List.mem_range.2 h)
    rw [knot_at (by omega), knot_at h, hk, decide_eq_false (by omega)] at this
    cases this

end Go.Proofs.YtmfbffhbgelnnaaGreatDoor

/- Plain mathematics of chapter 6: what is kept. -/
namespace Go.Proofs.YtmfbffhbgelnnaaGreatDoor

/-- May message k stand behind the one ahead of it in a keep? -/
def keepNext (l : List MsgM) (k : Nat) (h : k < l.length) : Bool := msgB l[k] && (!(l[k].2.2.2 == 0) && (decide (k = 0) || !(leB l[k].2.2.1 (l[k - 1]'(by omega)).2.2.1)))
def keepTo (l : List MsgM) (k : Nat) : Bool := (List.range k).all fun j => if h : j < l.length then keepNext l j h else true
/-- 'KeepOk'. -/
def keepB (l : List MsgM) : Bool := keepTo l l.length && decide (l.length ≤ 24)

theorem keepTo_succ (l : List MsgM) (k : Nat) (h : k < l.length) : keepTo l (k + 1) = (keepTo l k && keepNext l k h) := by
  unfold keepTo; rw [List.range_succ, List.all_append]; simp [h]

theorem keepTo_bad {l : List MsgM} {k : Nat} (h : k < l.length) (hb : keepNext l k h = false) : keepB l = false := by
  cases e : keepB l
  · rfl
  · unfold keepB keepTo at e
    rw [Bool.and_eq_true] at e
    have e2 := e.1
    rw [List.all_eq_true] at e2
    have := e2 k (List.mem_range.2 h)
    rw [dif_pos h, hb] at this; cases this

/-! ### 'Kept' -/

def sameT (a b : ByteArray) : Bool := a.toList == b.toList

/-- Laid ahead of the first one whose topic is not less. -/
def keptPut (m : MsgM) (s : List MsgM × Bool) (x : MsgM) : List MsgM × Bool := if !s.2 && leB m.2.2.1 x.2.2.1 then (s.1 ++ [m], true) else s
def keptStep (m : MsgM) (s : List MsgM × Bool) (x : MsgM) : List MsgM × Bool := if sameT x.2.2.1 m.2.2.1 then keptPut m s x else ((keptPut m s x).1 ++ [x], (keptPut m s x).2)
def keptTo (m : MsgM) (l : List MsgM) (k : Nat) : List MsgM × Bool := (l.take k).foldl (keptStep m) ([], m.2.2.2 == 0)
def keptOut (l : List MsgM) (m : MsgM) : List MsgM := if (keptTo m l l.length).2 then (keptTo m l l.length).1 else (keptTo m l l.length).1 ++ [m]
def keptM (l : List MsgM) (m : MsgM) : List MsgM × Bool :=
  if keepB l then (if msgB m then (if 24 < (keptOut l m).length then (l, false) else (keptOut l m, true)) else (l, false)) else ([], false)

theorem keptTo_succ (m : MsgM) (l : List MsgM) (k : Nat) (h : k < l.length) : keptTo m l (k + 1) = keptStep m (keptTo m l k) l[k] := by
  unfold keptTo; rw [List.take_succ_eq_append_getElem h, List.foldl_append]; rfl

theorem keptStep_len (m : MsgM) (s : List MsgM × Bool) (x : MsgM) : (keptStep m s x).1.length ≤ s.1.length + 2 := by
  have h : (keptPut m s x).1.length ≤ s.1.length + 1 := by unfold keptPut; split <;> simp
  unfold keptStep
  split
  · omega
  · rw [List.length_append]; simp; omega

theorem keptTo_len (m : MsgM) (l : List MsgM) : ∀ k, k ≤ l.length → (keptTo m l k).1.length ≤ 2 * k
  | 0, _ => by simp [keptTo]
  | k + 1, h => by
    rw [keptTo_succ m l k (by omega)]
    have := keptTo_len m l k (by omega)
    have := keptStep_len m (keptTo m l k) l[k]
    omega

theorem keptM_len (l : List MsgM) (m : MsgM) : (keptM l m).1.length ≤ l.length + 24 := by
  unfold keptM
  split
  · split
    · split
      · simp
      · dsimp only; omega
    · simp
  · simp

/-! ### 'KeptFor' -/

/-- Where x goes among those that are there: behind the last one whose Seq is not more. -/
def posM (out : List MsgM) (q : Int) : Nat → Nat
  | 0 => 0
  | k + 1 => if q < (out.getD k (0, 0, ⟨#[]⟩, 0)).1 then posM out q k else k + 1
def putSeq (out : List MsgM) (x : MsgM) : List MsgM := out.take (posM out x.1 out.length) ++ [x] ++ out.drop (posM out x.1 out.length)
def forTo (f : ByteArray) (l : List MsgM) (k : Nat) : List MsgM := (l.take k).foldl (fun out x => if matchB f x.2.2.1 then putSeq out x else out) []
def forM (l : List MsgM) (f : ByteArray) : List MsgM := if keepB l then forTo f l l.length else []

theorem posM_le (out : List MsgM) (q : Int) : ∀ k, posM out q k ≤ k
  | 0 => Nat.le_refl _
  | k + 1 => by unfold posM; split; have := posM_le out q k; omega; omega

theorem putSeq_len (out : List MsgM) (x : MsgM) : (putSeq out x).length = out.length + 1 := by
  have := posM_le out x.1 out.length
  unfold putSeq; simp; omega

theorem forTo_succ (f : ByteArray) (l : List MsgM) (k : Nat) (h : k < l.length) : forTo f l (k + 1) = if matchB f l[k].2.2.1 then putSeq (forTo f l k) l[k] else forTo f l k := by
  unfold forTo; rw [List.take_succ_eq_append_getElem h, List.foldl_append]; rfl

theorem forTo_len (f : ByteArray) (l : List MsgM) : ∀ k, k ≤ l.length → (forTo f l k).length ≤ k
  | 0, _ => by simp [forTo]
  | k + 1, h => by
    rw [forTo_succ f l k (by omega)]
    have := forTo_len f l k (by omega)
    split
    · rw [putSeq_len]; omega
    · omega

theorem forM_len (l : List MsgM) (f : ByteArray) : (forM l f).length ≤ l.length := by
  unfold forM; split
  · exact forTo_len f l _ (Nat.le_refl _)
  · simp

end Go.Proofs.YtmfbffhbgelnnaaGreatDoor

/- Boxes: how they lie in memory; when they are right; what is offered to them. -/
namespace Go.Proofs.YtmfbffhbgelnnaaGreatDoor
open Go.RowKit

structure BoxM where
  cap : Int
  pol : Int
  q : List MsgM
  ofr : Int
  rcv : Int
  drp : Int
  mrg : Int
  shut : Bool

/-- The cells of a box whose queue is the value u. -/
abbrev bcells (b : BoxM) (u : Value) : Array Value := #[.int .i64 b.cap, .int .i64 b.pol, u, .int .i64 b.ofr, .int .i64 b.rcv, .int .i64 b.drp, .int .i64 b.mrg, .bool b.shut]
abbrev bagg (b : BoxM) (u : Value) : Value := .agg #[.int .i64 b.cap, .int .i64 b.pol, u, .int .i64 b.ofr, .int .i64 b.rcv, .int .i64 b.drp, .int .i64 b.mrg, .bool b.shut]
theorem bcells_one (b : BoxM) (a : Option Addr) (n c : Nat) : (bcells b (.slice a n c)).all (·.oneCell') = true := by simp [Value.oneCell']
def zeroBox : BoxM := ⟨0, 0, [], 0, 0, 0, 0, false⟩

/-- Is the box right, its queue's messages aside? -/
def boxN (b : BoxM) : Bool := inB b.cap 1 16 && inB b.pol 1 4 && decide ((b.q.length : Int) ≤ b.cap) && inB b.ofr 0 100000 && inB b.rcv 0 100000 && inB b.drp 0 100000 && inB b.mrg 0 100000
def msgsAll (l : List MsgM) : Bool := l.all msgB
def boxB (b : BoxM) : Bool := boxN b && (msgsAll b.q && decide (b.ofr = b.rcv + b.q.length + b.drp + b.mrg))

/-- Where one of that topic is, of those from k on. -/
def sameAt (l : List MsgM) (t : ByteArray) : Nat → Nat → Option Nat
  | _, 0 => none
  | k, n + 1 => if sameT ((l.getD k (0, 0, ⟨#[]⟩, 0)).2.2.1) t then some k else sameAt l t (k + 1) n
def sameQ (b : BoxM) (t : ByteArray) : Option Nat := if b.pol = 4 then sameAt b.q t 0 b.q.length else none

/-- OfferedTo: the box, the code. -/
def offerM (b : BoxM) (m : MsgM) : BoxM × Int :=
  if boxB b then
    if !(msgB m) || decide (100000 ≤ b.ofr) then (b, 6)
    else if b.shut then (b, 1)
    else match sameQ b m.2.2.1 with
      | some i => ({ b with q := b.q.set i m, ofr := b.ofr + 1, mrg := b.mrg + 1 }, 2)
      | none =>
        if (b.q.length : Int) = b.cap then
          if b.pol = 1 then (b, 3)
          else if b.pol = 3 then ({ b with ofr := b.ofr + 1, drp := b.drp + 1 }, 4)
          else ({ b with q := b.q.drop 1 ++ [m], ofr := b.ofr + 1, drp := b.drp + 1 }, 5)
        else ({ b with q := b.q ++ [m], ofr := b.ofr + 1 }, 0)
  else (zeroBox, 6)

/-- TakenFrom: the box, the message, whether there was one. -/
def takeM (b : BoxM) : BoxM × MsgM × Bool :=
  if boxB b then
    match b.q with
    | [] => (b, (0, 0, ⟨#[]⟩, 0), false)
    | x :: l => ({ b with q := l, rcv := b.rcv + 1 }, x, true)
  else (zeroBox, (0, 0, ⟨#[]⟩, 0), false)

def shutM (b : BoxM) : BoxM := if boxB b then { b with shut := true } else zeroBox
def endB (b : BoxM) : Bool := boxB b && b.shut && b.q.isEmpty

theorem boxB_len {b : BoxM} (h : boxB b = true) : b.q.length ≤ 16 ∧ (b.q.length : Int) ≤ b.cap ∧ ∀ x ∈ b.q, msgB x = true := by
  unfold boxB boxN inB at h
  simp only [Bool.and_eq_true, decide_eq_true_eq] at h
  refine ⟨by omega, by omega, ?_⟩
  have := h.2.1
  unfold msgsAll at this
  rw [List.all_eq_true] at this
  exact this

theorem offerM_len (b : BoxM) (m : MsgM) : (offerM b m).1.q.length ≤ b.q.length + 1 := by
  unfold offerM
  split
  · split
    · simp
    · split
      · simp
      · split
        · simp
        · split
          · split
            · simp
            · split
              · simp
              · simp
          · simp
  · simp [zeroBox]

theorem takeM_len (b : BoxM) : (takeM b).1.q.length ≤ b.q.length := by
  unfold takeM
  split
  · split
    · simp
    · rename_i h; rw [h]; simp
  · simp [zeroBox]

/-! ### Boxed -/

/-- The box lies in block B. -/
def BBox (w : World) (B : Nat) (T : TypeId) (b : BoxM) (u : Value) : Prop := w.heap[B]? = some (.cells (bcells b u) T (0, 0))
theorem BBox.new (w : World) (T : TypeId) (b : BoxM) (u : Value) : BBox (w.alloc (.cells (bcells b u) T)) w.heap.size T b u := heap_alloc_new _ _
theorem BBox.lt {w : World} {B : Nat} {T : TypeId} {b : BoxM} {u : Value} (h : BBox w B T b u) : B < w.heap.size := (Array.getElem?_eq_some_iff.1 h).1
theorem BBox.below {w w' : World} {B : Nat} {T : TypeId} {b : BoxM} {u : Value} (h : BBox w B T b u) (hb : Below w.heap.size w w') : BBox w' B T b u := (hb.block B h.lt).trans h
theorem BBox.grown {w w' : World} {B g : Nat} {T : TypeId} {b : BoxM} {u : Value} (h : BBox w B T b u) (hg : w.grownBy w' (some g)) (hne : B ≠ g) : BBox w' B T b u := (hg.block B h.lt (fun e => hne (by cases e; rfl))).trans h
theorem BBox.cells {w : World} {B : Nat} {T : TypeId} {b : BoxM} {u : Value} (h : BBox w B T b u) :
    w.cell? ⟨B, 0, none⟩ = some (.int .i64 b.cap) ∧ w.cell? ⟨B, 1, none⟩ = some (.int .i64 b.pol) ∧ w.cell? ⟨B, 2, none⟩ = some u ∧ w.cell? ⟨B, 3, none⟩ = some (.int .i64 b.ofr) ∧
    w.cell? ⟨B, 4, none⟩ = some (.int .i64 b.rcv) ∧ w.cell? ⟨B, 5, none⟩ = some (.int .i64 b.drp) ∧ w.cell? ⟨B, 6, none⟩ = some (.int .i64 b.mrg) ∧ w.cell? ⟨B, 7, none⟩ = some (.bool b.shut) :=
  ⟨cell_of_heap h 0, cell_of_heap h 1, cell_of_heap h 2, cell_of_heap h 3, cell_of_heap h 4, cell_of_heap h 5, cell_of_heap h 6, cell_of_heap h 7⟩
theorem BBox.fr {w : World} {B : Nat} {T : TypeId} {b : BoxM} {u : Value} (h : BBox w B T b u) (j : Nat) : w.frozen? ⟨B, j, none⟩ = false := frozen_of_row _ _ _ _ _ h
theorem BBox.off_row {w : World} {B : Nat} {T : TypeId} {b : BoxM} {u : Value} {B0 n : Nat} {v : Value} {xs : List Value} (h : BBox w B T b u) (hT : T ≠ 97) (ho : w.ownsRow B0 97 4 v n xs) : v.ownBlock ≠ some B := by
  rcases ho.2 with ⟨rfl, _⟩ | ⟨g, cap, cur, rfl, _, h3, _⟩
  · intro e; cases e
  · intro e
    have e2 : g = B := by cases e; rfl
    subst e2
    rw [h] at h3
    cases h3
    exact hT rfl

end Go.Proofs.YtmfbffhbgelnnaaGreatDoor

/- Brokers: how they lie in memory; when they are right. -/
namespace Go.Proofs.YtmfbffhbgelnnaaGreatDoor
open Go.RowKit

/-- A sub: its filter, its box, whether it is live. -/
structure SubM where
  fil : ByteArray
  box : BoxM
  live : Bool

/-- The ten cells of a sub whose queue is the value u. -/
abbrev scells (s : SubM) (u : Value) : List Value := [.string s.fil, .int .i64 s.box.cap, .int .i64 s.box.pol, u, .int .i64 s.box.ofr, .int .i64 s.box.rcv, .int .i64 s.box.drp, .int .i64 s.box.mrg, .bool s.box.shut, .bool s.live]
def SubIn (w : World) (b o : Nat) (s : SubM) : Prop := ∃ u, MsgsAt w u s.box.q ∧ w.rangeAt b o (scells s u)
/-- v reads as the subs l. -/
def SubsAt (w : World) (v : Value) (l : List SubM) : Prop :=
  ∃ a c, v = .slice a l.length c ∧ l.length ≤ c ∧ c ≤ maxLen ∧ (l = [] ∨ ∃ b o, a = some ⟨b, o, none⟩ ∧ ∀ j (hj : j < l.length), SubIn w b (o + j * 10) l[j])

theorem rangeAt_below {w w' : World} {b o : Nat} {cs : List Value} (h : w.rangeAt b o cs) (hb : Below w.heap.size w w') : w'.rangeAt b o cs := fun j v hj =>
  (below_cell hb (World.block_lt_of_cell? _ _ (h j v hj))).trans (h j v hj)
theorem SubIn.below {w w' : World} {b o : Nat} {s : SubM} (h : SubIn w b o s) (hb : Below w.heap.size w w') : SubIn w' b o s := by
  obtain ⟨u, h1, h2⟩ := h
  exact ⟨u, h1.below hb, rangeAt_below h2 hb⟩
theorem SubsAt.below {w w' : World} {v : Value} {l : List SubM} (h : SubsAt w v l) (hb : Below w.heap.size w w') : SubsAt w' v l := by
  obtain ⟨a, c, hv, h1, h2, h3⟩ := h
  refine ⟨a, c, hv, h1, h2, ?_⟩
  rcases h3 with h3 | ⟨b, o, ha, hi⟩
  · exact .inl h3
  · exact .inr ⟨b, o, ha, fun j hj => (hi j hj).below hb⟩

structure BrokerM where
  max : Int
  subs : List SubM
  trie : List KnotM
  keep : List MsgM
  rcap : Int
  ring : List MsgM
  seq : Int
  closed : Bool

/-- The eight cells of a broker, its rows being these values. -/
structure BrV where
  s : Value
  t : Value
  k : Value
  r : Value
abbrev brcells (b : BrokerM) (v : BrV) : Array Value := #[.int .i64 b.max, v.s, v.t, v.k, .int .i64 b.rcap, v.r, .int .i64 b.seq, .bool b.closed]
abbrev bragg (b : BrokerM) (v : BrV) : Value := .agg #[.int .i64 b.max, v.s, v.t, v.k, .int .i64 b.rcap, v.r, .int .i64 b.seq, .bool b.closed]
/-- The values read as the broker's rows. -/
structure BrAt (w : World) (v : BrV) (b : BrokerM) : Prop where
  subs : SubsAt w v.s b.subs
  trie : KnotsAt w v.t b.trie
  keep : MsgsAt w v.k b.keep
  ring : MsgsAt w v.r b.ring
theorem BrAt.below {w w' : World} {v : BrV} {b : BrokerM} (h : BrAt w v b) (hb : Below w.heap.size w w') : BrAt w' v b :=
  ⟨h.subs.below hb, h.trie.below hb, h.keep.below hb, h.ring.below hb⟩
theorem BrAt.slices {w : World} {v : BrV} {b : BrokerM} (h : BrAt w v b) : ∃ a1 c1 a2 c2 a3 c3 a5 c5, v = ⟨.slice a1 b.subs.length c1, .slice a2 b.trie.length c2, .slice a3 b.keep.length c3, .slice a5 b.ring.length c5⟩ := by
  obtain ⟨vs, vt, vk, vr⟩ := v
  obtain ⟨a1, c1, e1, _⟩ := h.subs
  obtain ⟨a2, c2, e2, _⟩ := h.trie
  obtain ⟨a3, c3, e3, _⟩ := h.keep
  obtain ⟨a5, c5, e5, _⟩ := h.ring
  dsimp only at e1 e2 e3 e5
  subst e1 e2 e3 e5
  exact ⟨a1, c1, a2, c2, a3, c3, a5, c5, rfl⟩
/-- A broker's block. -/
def BBr (w : World) (B : Nat) (T : TypeId) (b : BrokerM) (v : BrV) : Prop := w.heap[B]? = some (.cells (brcells b v) T (0, 0))
theorem BBr.new (w : World) (T : TypeId) (b : BrokerM) (v : BrV) : BBr (w.alloc (.cells (brcells b v) T)) w.heap.size T b v := heap_alloc_new _ _
theorem BBr.lt {w : World} {B : Nat} {T : TypeId} {b : BrokerM} {v : BrV} (h : BBr w B T b v) : B < w.heap.size := (Array.getElem?_eq_some_iff.1 h).1
theorem BBr.below {w w' : World} {B : Nat} {T : TypeId} {b : BrokerM} {v : BrV} (h : BBr w B T b v) (hb : Below w.heap.size w w') : BBr w' B T b v := (hb.block B h.lt).trans h
theorem BBr.cells {w : World} {B : Nat} {T : TypeId} {b : BrokerM} {v : BrV} (h : BBr w B T b v) :
    w.cell? ⟨B, 0, none⟩ = some (.int .i64 b.max) ∧ w.cell? ⟨B, 1, none⟩ = some v.s ∧ w.cell? ⟨B, 2, none⟩ = some v.t ∧ w.cell? ⟨B, 3, none⟩ = some v.k ∧
    w.cell? ⟨B, 4, none⟩ = some (.int .i64 b.rcap) ∧ w.cell? ⟨B, 5, none⟩ = some v.r ∧ w.cell? ⟨B, 6, none⟩ = some (.int .i64 b.seq) ∧ w.cell? ⟨B, 7, none⟩ = some (.bool b.closed) :=
  ⟨cell_of_heap h 0, cell_of_heap h 1, cell_of_heap h 2, cell_of_heap h 3, cell_of_heap h 4, cell_of_heap h 5, cell_of_heap h 6, cell_of_heap h 7⟩
def zeroBroker : BrokerM := ⟨0, [], [], [], 0, [], 0, false⟩

/-- No message is later than that. -/
def uptoB (l : List MsgM) (n : Int) : Bool := l.all fun x => decide (x.1 ≤ n)
/-- Is a sub right, in a broker of that Seq? -/
def subB (s : SubM) (n : Int) (closed : Bool) : Bool := filterP (parts s.fil 47) && (boxB s.box && (uptoB s.box.q n && !((!s.live || closed) && !s.box.shut)))

end Go.Proofs.YtmfbffhbgelnnaaGreatDoor

/- What is kept stays few and short. -/
namespace Go.Proofs.YtmfbffhbgelnnaaGreatDoor

theorem keptPut_mem {m x y : MsgM} {s : List MsgM × Bool} (h : y ∈ (keptPut m s x).1) : y ∈ s.1 ∨ y = m := by
  unfold keptPut at h
  split at h
  · rcases List.mem_append.1 h with h | h
    · exact .inl h
    · exact .inr (List.mem_singleton.1 h)
  · exact .inl h

theorem keptStep_mem {m x y : MsgM} {s : List MsgM × Bool} (h : y ∈ (keptStep m s x).1) : y ∈ s.1 ∨ y = m ∨ y = x := by
  unfold keptStep at h
  split at h
  · rcases keptPut_mem h with h | h
    · exact .inl h
    · exact .inr (.inl h)
  · rcases List.mem_append.1 h with h | h
    · rcases keptPut_mem h with h | h
      · exact .inl h
      · exact .inr (.inl h)
    · exact .inr (.inr (List.mem_singleton.1 h))

theorem keptTo_mem {m y : MsgM} (l : List MsgM) : ∀ k, k ≤ l.length → y ∈ (keptTo m l k).1 → y ∈ l ∨ y = m
  | 0, _, h => by simp [keptTo] at h
  | k + 1, hk, h => by
    rw [keptTo_succ m l k (by omega)] at h
    rcases keptStep_mem h with h | h | h
    · exact keptTo_mem l k (by omega) h
    · exact .inr h
    · exact .inl (by rw [h]; exact List.getElem_mem _)

theorem keptM_mem {l : List MsgM} {m y : MsgM} (h : y ∈ (keptM l m).1) : y ∈ l ∨ y = m := by
  have ho : y ∈ keptOut l m → y ∈ l ∨ y = m := fun h => by
    unfold keptOut at h
    split at h
    · exact keptTo_mem l _ (Nat.le_refl _) h
    · rcases List.mem_append.1 h with h | h
      · exact keptTo_mem l _ (Nat.le_refl _) h
      · exact .inr (List.mem_singleton.1 h)
  unfold keptM at h
  split at h
  · split at h
    · split at h
      · exact .inl h
      · exact ho h
    · exact .inl h
  · cases h

theorem keptM_few {l : List MsgM} (m : MsgM) (hl : l.length ≤ 24) : (keptM l m).1.length ≤ 24 := by
  unfold keptM
  split
  · split
    · split
      · exact hl
      · dsimp only; omega
    · exact hl
  · simp

end Go.Proofs.YtmfbffhbgelnnaaGreatDoor

/- Plain mathematics of chapter 3: paths as lists of parts, and the nodes of the program's tree as one list. Of no program. -/
namespace Go.Proofs.YtmfbffhbgelnnaaGreatDoor

/-- Texts with slashes between. -/
def jl : List (List UInt8) → List UInt8
  | [] => []
  | [p] => p
  | p :: q :: ps => p ++ 47 :: jl (q :: ps)

theorem jl_snoc : ∀ (xs : List (List UInt8)) (y : List UInt8), xs ≠ [] → jl (xs ++ [y]) = jl xs ++ 47 :: y
  | [], _, h => absurd rfl h
  | [p], y, _ => rfl
  | p :: q :: ps, y, _ => by
    have ih := jl_snoc (q :: ps) y (by simp)
    rw [List.cons_append, List.cons_append, jl, ← List.cons_append, ih, jl, List.append_assoc, List.cons_append]

theorem cut_hit (c : UInt8) (l : List UInt8) : cut c (c :: l) = [] :: cut c l := by rw [cut, if_pos rfl]
theorem cut_miss {c b : UInt8} {l p : List UInt8} {ps : List (List UInt8)} (h : b ≠ c) (e : cut c l = p :: ps) : cut c (b :: l) = (b :: p) :: ps := by
  rw [cut, if_neg h, e]

theorem jl_cut : ∀ L : List UInt8, jl (cut 47 L) = L
  | [] => rfl
  | b :: L => by
    have ih := jl_cut L
    obtain ⟨p, ps, h⟩ := cut_cons 47 L
    rw [h] at ih
    by_cases e : b = 47
    · subst e; rw [cut_hit, h, jl, ih]; rfl
    · rw [cut_miss e h]
      cases ps with
      | nil => simpa [jl] using ih
      | cons q ps => rw [jl] at ih ⊢; rw [List.cons_append, ih]

/-- A part bears no slash, and is not empty. -/
def Good (P : List (List UInt8)) : Prop := ∀ p ∈ P, p ≠ [] ∧ (47 : UInt8) ∉ p

theorem cut_plain : ∀ p : List UInt8, (47 : UInt8) ∉ p → cut 47 p = [p]
  | [], _ => rfl
  | b :: l, h => by
    rw [List.mem_cons, not_or] at h
    exact cut_miss (Ne.symm h.1) (cut_plain l h.2)

theorem cut_glue : ∀ (p L : List UInt8), (47 : UInt8) ∉ p → cut 47 (p ++ 47 :: L) = p :: cut 47 L
  | [], L, _ => cut_hit 47 L
  | b :: l, L, h => by
    rw [List.mem_cons, not_or] at h
    rw [List.cons_append]
    exact cut_miss (Ne.symm h.1) (cut_glue l L h.2)

theorem cut_jl : ∀ P : List (List UInt8), P ≠ [] → (∀ p ∈ P, (47 : UInt8) ∉ p) → cut 47 (jl P) = P
  | [], h, _ => absurd rfl h
  | [p], _, h => cut_plain p (h p (by simp))
  | p :: q :: ps, _, h => by
    rw [jl, cut_glue _ _ (h p (by simp)), cut_jl (q :: ps) (by simp) (fun x hx => h x (by simp_all))]

/-- The parts of a path; of the empty one none. -/
def pth (s : ByteArray) : List (List UInt8) := if s.data.toList = [] then [] else cut 47 s.data.toList

theorem jl_pth (s : ByteArray) : jl (pth s) = s.data.toList := by
  unfold pth; split
  · rename_i h; rw [h]; rfl
  · exact jl_cut _

theorem jl_ne {P : List (List UInt8)} (h : Good P) (hn : P ≠ []) : jl P ≠ [] := by
  match P, hn with
  | [p], _ => exact (h p (by simp)).1
  | p :: q :: ps, _ => rw [jl]; simp

theorem jl_inj {P Q : List (List UInt8)} (hP : Good P) (hQ : Good Q) (h : jl P = jl Q) : P = Q := by
  by_cases h1 : P = []
  · subst h1
    by_cases h2 : Q = []
    · exact h2.symm
    · exact absurd h.symm (jl_ne hQ h2)
  · by_cases h2 : Q = []
    · subst h2; exact absurd h (jl_ne hP h1)
    · rw [← cut_jl P h1 (fun p hp => (hP p hp).2), ← cut_jl Q h2 (fun p hp => (hQ p hp).2), h]

theorem Good.dropLast {P : List (List UInt8)} (h : Good P) : Good P.dropLast := fun p hp => h p (List.dropLast_subset _ hp)
theorem Good.take {P : List (List UInt8)} (h : Good P) (k : Nat) : Good (P.take k) := fun p hp => h p (List.mem_of_mem_take hp)

/-- A node: the parts of its path, its numbers, its block, and what its two fields hold. -/
structure NodeM where
  path : List (List UInt8)
  ids : List Int
  ptr : Nat
  idsV : Value
  kidsV : Value

def NodeM.last (x : NodeM) : List UInt8 := x.path.getLastD []
def bts (l : List UInt8) : ByteArray := ⟨l.toArray⟩
theorem bts_list (l : List UInt8) : (bts l).data.toList = l := rfl
theorem bts_of (s : ByteArray) : bts s.data.toList = s := rfl
def NodeM.isKid (p : List (List UInt8)) (y : NodeM) : Bool := decide (y.path ≠ []) && decide (y.path.dropLast = p)

/-- The children, in the list's order. -/
def kids (T : List NodeM) (p : List (List UInt8)) : List NodeM := T.filter (NodeM.isKid p)

theorem isKid_iff {p : List (List UInt8)} {y : NodeM} : y.isKid p = true ↔ y.path = p ++ [y.last] := by
  unfold NodeM.isKid NodeM.last
  rw [Bool.and_eq_true, decide_eq_true_iff, decide_eq_true_iff]
  constructor
  · rintro ⟨h, rfl⟩
    rw [List.getLastD_eq_getLast?, List.getLast?_eq_some_getLast h]
    exact (List.dropLast_concat_getLast h).symm
  · intro h
    rw [h]
    simp

theorem kids_mem {T : List NodeM} {p : List (List UInt8)} {y : NodeM} : y ∈ kids T p ↔ y ∈ T ∧ y.path = p ++ [y.last] := by
  unfold kids; rw [List.mem_filter, isKid_iff]

theorem last_snoc {y : NodeM} {p : List (List UInt8)} {x : List UInt8} (h : y.path = p ++ [x]) : y.last = x := by
  unfold NodeM.last; rw [h]; simp

theorem kids_snoc {T : List NodeM} {p : List (List UInt8)} {y : NodeM} {x : List UInt8} (hy : y ∈ T) (h : y.path = p ++ [x]) : y ∈ kids T p := by
  rw [kids_mem, last_snoc h]; exact ⟨hy, h⟩

abbrev less (a b : List UInt8) : Bool := Op.bytesLess a b

theorem less_irrefl : ∀ a : List UInt8, less a a = false
  | [] => rfl
  | a :: l => by
    have := less_irrefl l
    simp only [less, Op.bytesLess] at this ⊢
    simp [this]

theorem less_trans : ∀ {a b c : List UInt8}, less a b = true → less b c = true → less a c = true
  | [], [], _, h, _ => by simp [less, Op.bytesLess] at h
  | [], _ :: _, [], _, h => by simp [less, Op.bytesLess] at h
  | [], _ :: _, _ :: _, _, _ => by simp [less, Op.bytesLess]
  | _ :: _, [], _, h, _ => by simp [less, Op.bytesLess] at h
  | _ :: _, _ :: _, [], _, h => by simp [less, Op.bytesLess] at h
  | a :: x, b :: y, c :: z, h, k => by
    simp only [less, Op.bytesLess, Bool.or_eq_true, Bool.and_eq_true, decide_eq_true_iff, beq_iff_eq] at h k ⊢
    rcases h with h | ⟨rfl, h⟩
    · rcases k with k | ⟨rfl, k⟩
      · exact .inl (UInt8.lt_trans h k)
      · exact .inl h
    · rcases k with k | ⟨rfl, k⟩
      · exact .inl k
      · exact .inr ⟨rfl, less_trans h k⟩

theorem less_tri : ∀ a b : List UInt8, less a b = true ∨ a = b ∨ less b a = true
  | [], [] => .inr (.inl rfl)
  | [], _ :: _ => .inl (by simp [less, Op.bytesLess])
  | _ :: _, [] => .inr (.inr (by simp [less, Op.bytesLess]))
  | a :: x, b :: y => by
    simp only [less, Op.bytesLess, Bool.or_eq_true, Bool.and_eq_true, decide_eq_true_iff, beq_iff_eq]
    have h3 : a.toNat < b.toNat ∨ a.toNat = b.toNat ∨ b.toNat < a.toNat := by omega
    rcases h3 with h | h | h
    · exact .inl (.inl (UInt8.lt_iff_toNat_lt.2 h))
    · have e : a = b := UInt8.toNat_inj.1 h
      subst e
      rcases less_tri x y with h | h | h
      · exact .inl (.inr ⟨rfl, h⟩)
      · exact .inr (.inl (by rw [h]))
      · exact .inr (.inr (.inr ⟨rfl, h⟩))
    · exact .inr (.inr (.inl (UInt8.lt_iff_toNat_lt.2 h)))

theorem less_asymm {a b : List UInt8} (h : less a b = true) : less b a = false := by
  cases e : less b a
  · rfl
  · have := less_trans h e; rw [less_irrefl] at this; cases this

theorem less_prefix : ∀ (p : List UInt8) {a b : List UInt8}, less (p ++ a) (p ++ b) = less a b
  | [], _, _ => rfl
  | c :: p, a, b => by
    have := less_prefix p (a := a) (b := b)
    simp only [less] at this ⊢
    simp [Op.bytesLess, this]

theorem less_longer : ∀ (p : List UInt8) {a : List UInt8}, a ≠ [] → less p (p ++ a) = true
  | [], a, h => by cases a with | nil => exact absurd rfl h | cons => simp [less, Op.bytesLess]
  | c :: p, a, h => by
    have := less_longer p h
    simp only [less] at this ⊢
    simp [Op.bytesLess, this]

theorem leB_less (a b : ByteArray) : leB a b = !(less b.toList a.toList) := by
  unfold leB
  rcases less_tri a.toList b.toList with h | h | h
  · rw [less_asymm h]; simp only [less] at h; rw [h]; rfl
  · rw [h, less_irrefl]; simp
  · have h2 := less_asymm h
    rw [h]
    have hne : (a.toList == b.toList) = false := by
      cases e : (a.toList == b.toList)
      · rfl
      · rw [beq_iff_eq] at e; rw [e, less_irrefl] at h; cases h
    simp only [less] at h2
    rw [h2, hne]; rfl

theorem cmp_neg : ∀ a b : List UInt8, decide (Lib.compareBytes a b < 0) = less a b
  | [], [] => by simp [Lib.compareBytes, less, Op.bytesLess]
  | [], _ :: _ => by simp [Lib.compareBytes, less, Op.bytesLess]
  | _ :: _, [] => by simp [Lib.compareBytes, less, Op.bytesLess]
  | a :: x, b :: y => by
    have ih := cmp_neg x y
    rw [Lib.compareBytes]
    simp only [less, Op.bytesLess] at ih ⊢
    by_cases h : a < b
    · simp [h]
    · by_cases h2 : b < a
      · have : ¬ a = b := fun e => by subst e; exact UInt8.lt_irrefl _ h2
        simp [h, h2, this]
      · have : a = b := UInt8.toNat_inj.1 (by rw [UInt8.lt_iff_toNat_lt] at h h2; omega)
        subst this
        simp [ih]

theorem cmp_zero : ∀ a b : List UInt8, decide (Lib.compareBytes a b = 0) = (a == b)
  | [], [] => by simp [Lib.compareBytes]
  | [], _ :: _ => by simp [Lib.compareBytes]
  | _ :: _, [] => by simp [Lib.compareBytes]
  | a :: x, b :: y => by
    have ih := cmp_zero x y
    rw [Lib.compareBytes]
    by_cases h : a < b
    · have : ¬ a = b := fun e => by subst e; exact UInt8.lt_irrefl _ h
      simp [h, this]
    · by_cases h2 : b < a
      · have : ¬ a = b := fun e => by subst e; exact UInt8.lt_irrefl _ h2
        simp [h, h2, this]
      · have : a = b := UInt8.toNat_inj.1 (by rw [UInt8.lt_iff_toNat_lt] at h h2; omega)
        subst this
        simp [ih]

/-- What the list of nodes is like: its paths rise, each one's front part is there, its parts are good. -/
structure TreeOk (T : List NodeM) : Prop where
  closed : ∀ x ∈ T, x.path ≠ [] → ∃ y ∈ T, y.path = x.path.dropLast
  good : ∀ x ∈ T, Good x.path
  sorted : T.Pairwise fun x y => less (jl x.path) (jl y.path) = true

/-- The children's last parts rise. -/
theorem TreeOk.kids_rise {T : List NodeM} (h : TreeOk T) (p : List (List UInt8)) : (kids T p).Pairwise fun x y => less x.last y.last = true := by
  have hs := h.sorted.filter (NodeM.isKid p)
  refine List.Pairwise.imp_of_mem ?_ hs
  intro a b ha hb hab
  obtain ⟨_, ea⟩ := kids_mem.1 ha
  obtain ⟨_, eb⟩ := kids_mem.1 hb
  rw [ea, eb] at hab
  by_cases hp : p = []
  · subst hp; simpa [jl] using hab
  · rw [jl_snoc _ _ hp, jl_snoc _ _ hp, show jl p ++ 47 :: a.last = (jl p ++ [47]) ++ a.last by simp, show jl p ++ 47 :: b.last = (jl p ++ [47]) ++ b.last by simp, less_prefix] at hab
    exact hab

theorem cut_noslash : ∀ (L : List UInt8), ∀ p ∈ cut 47 L, (47 : UInt8) ∉ p
  | [], p, h => by rw [cut] at h; rw [List.mem_singleton.1 h]; simp
  | b :: L, p, h => by
    have ih := cut_noslash L
    obtain ⟨q, ps, e⟩ := cut_cons 47 L
    by_cases hb : b = 47
    · subst hb
      rw [cut_hit] at h
      rcases List.mem_cons.1 h with rfl | h
      · simp
      · exact ih p h
    · rw [cut_miss hb e] at h
      rcases List.mem_cons.1 h with rfl | h
      · intro h2
        rcases List.mem_cons.1 h2 with h2 | h2
        · exact hb h2.symm
        · exact ih q (by rw [e]; simp) h2
      · exact ih p (by rw [e]; simp [h])

theorem partF_ne {p : ByteArray} {b : Bool} (h : partF p b = true) : p.data.toList ≠ [] := by
  unfold partF at h
  intro e
  have e2 : p.toList = [] := by simpa [Lib.toList_data] using e
  have e3 : p.size = 0 := by show p.data.size = 0; rw [← Array.length_toList, e]; rfl
  simp [e2, isWord, e3] at h

/-- The parts of a filter. -/
theorem filter_good {s : ByteArray} (h : filterP (parts s 47) = true) : pth s = (parts s 47).map (·.data.toList) ∧ Good (pth s) ∧ pth s ≠ [] := by
  have hg : ∀ q ∈ (parts s 47).map (·.data.toList), q ≠ [] ∧ (47 : UInt8) ∉ q := fun q hq => by
    refine ⟨?_, cut_noslash s.data.toList q (by rw [← parts_data]; exact hq)⟩
    obtain ⟨p, hp, rfl⟩ := List.mem_map.1 hq
    obtain ⟨j, hj, rfl⟩ := List.mem_iff_getElem.1 hp
    cases e : partF (parts s 47)[j] (decide (j + 1 = (parts s 47).length))
    · rw [filterP_bad hj e] at h; cases h
    · exact partF_ne e
  have hne : s.data.toList ≠ [] := fun e => by
    have h1 : (parts s 47).map (·.data.toList) = [[]] := by rw [parts_data, e]; rfl
    exact (hg [] (by rw [h1]; simp)).1 rfl
  have e : pth s = (parts s 47).map (·.data.toList) := by rw [pth, if_neg hne, parts_data]
  refine ⟨e, by rw [e]; exact hg, ?_⟩
  rw [e]
  intro h0
  have h1 := parts_pos s 47
  have h2 := congrArg List.length h0
  rw [List.length_map, List.length_nil] at h2; omega

end Go.Proofs.YtmfbffhbgelnnaaGreatDoor

/- The mathematics of what is kept: a rising keep, and one message more. -/
namespace Go.Proofs.YtmfbffhbgelnnaaGreatDoor

def ltT (a b : ByteArray) : Bool := less a.toList b.toList
/-- The topics rise. -/
def RiseK (l : List MsgM) : Prop := l.Pairwise fun x y => ltT x.2.2.1 y.2.2.1 = true

theorem leB_ltT (a b : ByteArray) : leB a b = !(ltT b a) := leB_less a b
theorem ltT_irrefl (a : ByteArray) : ltT a a = false := less_irrefl _
theorem ltT_not_same {a b : ByteArray} (h : ltT a b = true) : sameT a b = false := by
  unfold sameT; rw [beq_eq_false_iff_ne]; intro e; unfold ltT at h; rw [e, less_irrefl] at h; cases h
theorem ltT_not_same2 {a b : ByteArray} (h : ltT a b = true) : sameT b a = false := by
  unfold sameT; rw [beq_eq_false_iff_ne]; intro e; unfold ltT at h; rw [e, less_irrefl] at h; cases h
theorem ltT_tri (a b : ByteArray) : ltT a b = true ∨ sameT a b = true ∨ ltT b a = true := by
  rcases less_tri a.toList b.toList with h | h | h
  · exact .inl h
  · exact .inr (.inl (by unfold sameT; rw [h]; exact beq_self_eq_true _))
  · exact .inr (.inr h)
theorem sameT_lt {a b c : ByteArray} (h : sameT a b = true) (h2 : ltT a c = true) : ltT b c = true := by
  unfold sameT at h; unfold ltT at h2 ⊢; rw [← eq_of_beq h]; exact h2
theorem sameT_lt2 {a b c : ByteArray} (h : sameT a b = true) (h2 : ltT c a = true) : ltT c b = true := by
  unfold sameT at h; unfold ltT at h2 ⊢; rw [← eq_of_beq h]; exact h2
theorem ltT_trans {a b c : ByteArray} (h : ltT a b = true) (h2 : ltT b c = true) : ltT a c = true := less_trans h h2
theorem ltT_asymm {a b : ByteArray} (h : ltT a b = true) : ltT b a = false := less_asymm h

theorem keptFold_true (m : MsgM) : ∀ (l acc : List MsgM), l.foldl (keptStep m) (acc, true) = (acc ++ l.filter (fun x => !(sameT x.2.2.1 m.2.2.1)), true)
  | [], acc => by simp
  | x :: l, acc => by
    rw [List.foldl_cons]
    cases h : sameT x.2.2.1 m.2.2.1
    · rw [show keptStep m (acc, true) x = (acc ++ [x], true) by unfold keptStep keptPut; rw [h]; rfl, keptFold_true m l]
      rw [List.filter_cons, h]; simp
    · rw [show keptStep m (acc, true) x = (acc, true) by unfold keptStep keptPut; rw [h]; rfl, keptFold_true m l]
      rw [List.filter_cons, h]; simp

theorem filter_above {m : MsgM} {l : List MsgM} (h : ∀ x ∈ l, ltT m.2.2.1 x.2.2.1 = true) : l.filter (fun x => !(sameT x.2.2.1 m.2.2.1)) = l ∧ l.filter (fun x => ltT x.2.2.1 m.2.2.1) = [] ∧ l.filter (fun x => ltT m.2.2.1 x.2.2.1) = l :=
  ⟨List.filter_eq_self.2 fun x hx => by rw [ltT_not_same2 (h x hx)]; rfl, List.filter_eq_nil_iff.2 fun x hx => by rw [ltT_asymm (h x hx)]; simp, List.filter_eq_self.2 h⟩

/-- What is below, then the message, then what is above. -/
theorem keptFold_false (m : MsgM) : ∀ (l acc : List MsgM), RiseK l → (let s := l.foldl (keptStep m) (acc, false); if s.2 then s.1 else s.1 ++ [m]) = acc ++ l.filter (fun x => ltT x.2.2.1 m.2.2.1) ++ [m] ++ l.filter (fun x => ltT m.2.2.1 x.2.2.1)
  | [], acc, _ => by simp
  | x :: l, acc, hr => by
    obtain ⟨h1, h2⟩ := List.pairwise_cons.1 hr
    dsimp only
    rw [List.foldl_cons]
    rcases ltT_tri x.2.2.1 m.2.2.1 with h | h | h
    · have hle : leB m.2.2.1 x.2.2.1 = false := by rw [leB_ltT, h]; rfl
      have ih := keptFold_false m l (acc ++ [x]) h2
      rw [show keptStep m (acc, false) x = (acc ++ [x], false) by unfold keptStep keptPut; rw [ltT_not_same h, hle]; rfl]
      dsimp only at ih
      rw [ih, List.filter_cons, h, List.filter_cons, ltT_asymm h]
      simp
    · have hab := filter_above (m := m) (l := l) (fun y hy => sameT_lt h (h1 y hy))
      have e1 : ltT x.2.2.1 m.2.2.1 = false := by have := sameT_lt2 h (c := x.2.2.1); cases e : ltT x.2.2.1 m.2.2.1; rfl; rw [ltT_not_same e] at h; cases h
      have e2 : ltT m.2.2.1 x.2.2.1 = false := by cases e : ltT m.2.2.1 x.2.2.1; rfl; rw [ltT_not_same2 e] at h; cases h
      have hle : leB m.2.2.1 x.2.2.1 = true := by rw [leB_ltT, e1]; rfl
      rw [show keptStep m (acc, false) x = (acc ++ [m], true) by unfold keptStep keptPut; rw [h, hle]; rfl, keptFold_true]
      rw [List.filter_cons, e1, List.filter_cons, e2, hab.1]
      simp [hab.2.1, hab.2.2]
    · have hab := filter_above (m := m) (l := l) (fun y hy => ltT_trans h (h1 y hy))
      have e1 := ltT_asymm h
      have hle : leB m.2.2.1 x.2.2.1 = true := by rw [leB_ltT, e1]; rfl
      rw [show keptStep m (acc, false) x = (acc ++ [m] ++ [x], true) by unfold keptStep keptPut; rw [ltT_not_same2 h, hle]; rfl, keptFold_true]
      rw [List.filter_cons, e1, List.filter_cons, h, hab.1]
      simp [hab.2.1, hab.2.2]

/-- 'Kept', of a rising keep. -/
theorem keptOut_rise {l : List MsgM} (m : MsgM) (hr : RiseK l) : keptOut l m = if m.2.2.2 == 0 then l.filter (fun x => !(sameT x.2.2.1 m.2.2.1)) else l.filter (fun x => ltT x.2.2.1 m.2.2.1) ++ [m] ++ l.filter (fun x => ltT m.2.2.1 x.2.2.1) := by
  unfold keptOut keptTo
  rw [List.take_length]
  cases hb : (m.2.2.2 == 0)
  · have h := keptFold_false m l [] hr
    dsimp only at h
    rw [h]; simp
  · rw [keptFold_true]; simp

/-- A right keep, its number aside. -/
def GoodK (l : List MsgM) : Prop := RiseK l ∧ ∀ x ∈ l, msgB x = true ∧ x.2.2.2 ≠ 0

theorem keepB_good {l : List MsgM} (h : GoodK l) (hl : l.length ≤ 24) : keepB l = true := by
  unfold keepB
  rw [Bool.and_eq_true]
  refine ⟨?_, decide_eq_true hl⟩
  unfold keepTo
  rw [List.all_eq_true]
  intro k hk
  have hk2 : k < l.length := List.mem_range.1 hk
  rw [dif_pos hk2]
  obtain ⟨g1, g2⟩ := h.2 _ (List.getElem_mem hk2)
  unfold keepNext
  rw [g1, Bool.true_and, Bool.and_eq_true]
  refine ⟨by simpa using g2, ?_⟩
  by_cases h0 : k = 0
  · rw [decide_eq_true h0]; rfl
  · have := List.pairwise_iff_getElem.1 h.1 (k - 1) k (by omega) hk2 (by omega)
    rw [leB_ltT, this]; simp

theorem keptOut_good {l : List MsgM} {m : MsgM} (h : GoodK l) (hm : msgB m = true) : GoodK (keptOut l m) := by
  rw [keptOut_rise m h.1]
  split
  · exact ⟨h.1.filter _, fun x hx => h.2 x (List.mem_filter.1 hx).1⟩
  · rename_i hb
    refine ⟨?_, fun x hx => ?_⟩
    · unfold RiseK
      rw [List.append_assoc, List.pairwise_append]
      refine ⟨h.1.filter _, ?_, fun x hx y hy => ?_⟩
      · rw [List.singleton_append, List.pairwise_cons]
        exact ⟨fun y hy => (List.mem_filter.1 hy).2, h.1.filter _⟩
      · have h1 := (List.mem_filter.1 hx).2
        rcases List.mem_append.1 hy with h2 | h2
        · rw [List.mem_singleton.1 h2]; exact h1
        · exact ltT_trans h1 (List.mem_filter.1 h2).2
    · rcases List.mem_append.1 hx with h1 | h1
      · rcases List.mem_append.1 h1 with h1 | h1
        · exact h.2 x (List.mem_filter.1 h1).1
        · rw [List.mem_singleton.1 h1]; exact ⟨hm, by simpa using hb⟩
      · exact h.2 x (List.mem_filter.1 h1).1

theorem filters_len (m : MsgM) : ∀ l : List MsgM, (l.filter (fun x => ltT x.2.2.1 m.2.2.1)).length + (l.filter (fun x => ltT m.2.2.1 x.2.2.1)).length ≤ l.length
  | [] => by simp
  | x :: l => by
    have ih := filters_len m l
    rw [List.filter_cons, List.filter_cons]
    cases h : ltT x.2.2.1 m.2.2.1
    · simp only [Bool.false_eq_true, if_false]
      split <;> simp only [List.length_cons] <;> omega
    · rw [ltT_asymm h]
      simp only [if_true, Bool.false_eq_true, if_false, List.length_cons]; omega

theorem keptOut_len {l : List MsgM} (m : MsgM) (h : RiseK l) : (keptOut l m).length ≤ l.length + 1 := by
  rw [keptOut_rise m h]
  split
  · have := List.length_filter_le (fun x : MsgM => !(sameT x.2.2.1 m.2.2.1)) l; omega
  · have := filters_len m l
    simp only [List.length_append, List.length_singleton]; omega

/-- One message more to a right keep that has room. -/
theorem keptM_good {l : List MsgM} {m : MsgM} (h : GoodK l) (hl : l.length < 24) (hm : msgB m = true) : keptM l m = (keptOut l m, true) ∧ GoodK (keptOut l m) ∧ (keptOut l m).length ≤ l.length + 1 := by
  have h2 := keptOut_len m h.1
  refine ⟨?_, keptOut_good h hm, h2⟩
  unfold keptM
  rw [keepB_good h (by omega), hm, if_pos rfl, if_pos rfl, if_neg (by omega)]

theorem keptOut_has {l : List MsgM} {m : MsgM} (h : RiseK l) (hb : m.2.2.2 ≠ 0) : m ∈ keptOut l m ∧ ∀ x ∈ keptOut l m, sameT x.2.2.1 m.2.2.1 = true → x = m := by
  rw [keptOut_rise m h, if_neg (by simpa using hb)]
  refine ⟨by simp, fun x hx hs => ?_⟩
  rcases List.mem_append.1 hx with h1 | h1
  · rcases List.mem_append.1 h1 with h1 | h1
    · rw [ltT_not_same (List.mem_filter.1 h1).2] at hs; cases hs
    · exact List.mem_singleton.1 h1
  · rw [ltT_not_same2 (List.mem_filter.1 h1).2] at hs; cases hs

theorem keptOut_none {l : List MsgM} {m : MsgM} (h : RiseK l) (hb : m.2.2.2 = 0) : ∀ x ∈ keptOut l m, sameT x.2.2.1 m.2.2.1 = false := by
  rw [keptOut_rise m h, if_pos (by simpa using hb)]
  intro x hx
  have := (List.mem_filter.1 hx).2
  simpa using this

/-- None matches: nothing is told. -/
theorem forTo_none {f : ByteArray} {l : List MsgM} (h : ∀ x ∈ l, matchB f x.2.2.1 = false) : ∀ k, k ≤ l.length → forTo f l k = []
  | 0, _ => by simp [forTo]
  | k + 1, hk => by rw [forTo_succ f l k (by omega), forTo_none h k (by omega), h _ (List.getElem_mem _)]; rfl

theorem forTo_list {f : ByteArray} (l : List MsgM) : forTo f l l.length = l.foldl (fun out x => if matchB f x.2.2.1 then putSeq out x else out) [] := by unfold forTo; rw [List.take_length]

theorem forFold_skip {f : ByteArray} : ∀ (l out : List MsgM), (∀ x ∈ l, matchB f x.2.2.1 = false) → l.foldl (fun out x => if matchB f x.2.2.1 then putSeq out x else out) out = out
  | [], _, _ => rfl
  | x :: l, out, h => by
    rw [List.foldl_cons, h x (List.mem_cons_self ..)]
    exact forFold_skip l out fun y hy => h y (List.mem_cons_of_mem _ hy)

/-- Just one matches: it alone is told. -/
theorem forTo_one {f : ByteArray} {m : MsgM} (a b : List MsgM) (hm : matchB f m.2.2.1 = true) (ha : ∀ x ∈ a, matchB f x.2.2.1 = false) (hb : ∀ x ∈ b, matchB f x.2.2.1 = false) : forTo f (a ++ m :: b) (a ++ m :: b).length = [m] := by
  rw [forTo_list, List.foldl_append, forFold_skip a [] ha, List.foldl_cons, hm, if_pos rfl, forFold_skip b _ hb]
  rfl

/-! ### A topic as a filter -/

theorem word_plain {p : ByteArray} (h : isWord p = true) : isPlus p = false ∧ isHash p = false := by
  have hw : ∀ c : UInt8, low c = false → p.toList ≠ [c] := fun c hc e => by
    unfold isWord at h
    rw [Bool.and_eq_true] at h
    rw [Go.ByteArray.toList_eq] at e
    rw [e] at h
    simp [lowAll, hc] at h
  unfold isPlus isHash
  exact ⟨beq_eq_false_iff_ne.2 (hw 43 (by decide)), beq_eq_false_iff_ne.2 (hw 35 (by decide))⟩

theorem alike_eq {p q : ByteArray} (h : alike p q = true) : p = q := by
  unfold alike at h
  have e := eq_of_beq h
  rw [Go.ByteArray.toList_eq, Go.ByteArray.toList_eq] at e
  have := Array.toList_inj.1 e
  cases p; cases q; simpa using this

theorem matchP_words : ∀ (F T : List ByteArray), F.all isWord = true → matchP F T = true → F = T
  | [], [], _, _ => rfl
  | [], _ :: _, _, h => by simp [matchP] at h
  | p :: ps, [], hw, h => by
    simp only [List.all_cons, Bool.and_eq_true] at hw
    simp only [matchP] at h
    rw [(word_plain hw.1).2] at h; cases h
  | p :: ps, t :: ts, hw, h => by
    simp only [List.all_cons, Bool.and_eq_true] at hw
    simp only [matchP] at h
    rw [(word_plain hw.1).1, (word_plain hw.1).2, Bool.false_or, Bool.false_or, Bool.and_eq_true] at h
    rw [alike_eq h.1, matchP_words ps ts hw.2 h.2]

theorem parts_eq {a b : ByteArray} (h : parts a 47 = parts b 47) : a = b := by
  have e : cut 47 a.data.toList = cut 47 b.data.toList := by rw [← parts_data, ← parts_data, h]
  have e2 : a.data.toList = b.data.toList := by rw [← jl_cut a.data.toList, ← jl_cut b.data.toList, e]
  have := Array.toList_inj.1 e2
  cases a; cases b; simpa using this

/-- A topic, as a filter, matches itself alone. -/
theorem matchB_topic {f t : ByteArray} (hf : topicP (parts f 47) = true) (h : matchB f t = true) : f = t := by
  unfold topicP at hf
  rw [Bool.and_eq_true] at hf
  unfold matchB at h
  rw [Bool.and_eq_true] at h
  exact parts_eq (matchP_words _ _ hf.2 h.2)

/-- What was kept last of a topic is what is told of it. -/
theorem keeps_one {l : List MsgM} {m : MsgM} (h : GoodK l) (hl : l.length < 24) (hm : msgB m = true) (hb : m.2.2.2 ≠ 0) (ht : topicP (parts m.2.2.1 47) = true) (hf : filterP (parts m.2.2.1 47) = true) : forM (keptOut l m) m.2.2.1 = [m] := by
  obtain ⟨_, hg, hlen⟩ := keptM_good h hl hm
  unfold forM
  rw [keepB_good hg (by omega), if_pos rfl]
  obtain ⟨a, b, e⟩ := List.append_of_mem (keptOut_has h.1 hb).1
  have hr := hg.1
  rw [e] at hr ⊢
  unfold RiseK at hr
  rw [List.pairwise_append] at hr
  obtain ⟨_, h2, h3⟩ := hr
  obtain ⟨h4, _⟩ := List.pairwise_cons.1 h2
  refine forTo_one a b (matchB_self ht hf) (fun x hx => ?_) (fun x hx => ?_)
  · have hlt := h3 x hx m (List.mem_cons_self ..)
    cases hmb : matchB m.2.2.1 x.2.2.1
    · rfl
    · rw [← matchB_topic ht hmb, ltT_irrefl] at hlt; cases hlt
  · have hlt := h4 x hx
    cases hmb : matchB m.2.2.1 x.2.2.1
    · rfl
    · rw [← matchB_topic ht hmb, ltT_irrefl] at hlt; cases hlt

/-- What was cleared is not told. -/
theorem keeps_none {l : List MsgM} {m : MsgM} (h : GoodK l) (hl : l.length < 24) (hm : msgB m = true) (hb : m.2.2.2 = 0) (ht : topicP (parts m.2.2.1 47) = true) : forM (keptOut l m) m.2.2.1 = [] := by
  obtain ⟨_, hg, hlen⟩ := keptM_good h hl hm
  unfold forM
  rw [keepB_good hg (by omega), if_pos rfl]
  refine forTo_none (fun x hx => ?_) _ (Nat.le_refl _)
  have hs := keptOut_none h.1 hb x hx
  cases hmb : matchB m.2.2.1 x.2.2.1
  · rfl
  · have e := matchB_topic ht hmb
    unfold sameT at hs
    rw [e] at hs
    rw [beq_self_eq_true] at hs; cases hs

theorem goodK_nil : GoodK [] := ⟨List.Pairwise.nil, by simp⟩

end Go.Proofs.YtmfbffhbgelnnaaGreatDoor

/- The program's tree in memory, and its functions that only look. -/
namespace Go.Proofs.YtmfbffhbgelnnaaGreatDoor
open Go.RowKit

def ptrs (K : List NodeM) : List Value := K.map fun y => .pointer (some ⟨y.ptr, 0, none⟩)

/-- A node's block. -/
def BoxAt (w : World) (x : NodeM) : Prop := w.heap[x.ptr]? = some (.cells #[.string (bts x.last), x.idsV, x.kidsV] 146 (0, 0))

/-- Two nodes that share no memory. -/
def Apart3 (y z : NodeM) : Prop := y.ptr ≠ z.ptr ∧ Apart y.idsV z.idsV ∧ Apart y.kidsV z.kidsV

structure Nodes (w : World) (B : Nat) (T : List NodeM) : Prop where
  box : ∀ x ∈ T, B ≤ x.ptr ∧ BoxAt w x
  ids : ∀ x ∈ T, w.ownsRow B 2 1 x.idsV x.ids.length (ints x.ids)
  kid : ∀ x ∈ T, w.ownsRow B 122 1 x.kidsV (kids T x.path).length (ptrs (kids T x.path))
  apart : ∀ y ∈ T, ∀ z ∈ T, y.path ≠ z.path → Apart3 y z

theorem BoxAt.part {w : World} {x : NodeM} (h : BoxAt w x) : w.cell? ⟨x.ptr, 0, none⟩ = some (.string (bts x.last)) := by rw [cell_of_heap h]; rfl
theorem BoxAt.ids {w : World} {x : NodeM} (h : BoxAt w x) : w.cell? ⟨x.ptr, 1, none⟩ = some x.idsV := by rw [cell_of_heap h]; rfl
theorem BoxAt.kids {w : World} {x : NodeM} (h : BoxAt w x) : w.cell? ⟨x.ptr, 2, none⟩ = some x.kidsV := by rw [cell_of_heap h]; rfl

/-- The comparison of a child's part. -/
theorem kidCmp_any (b : Nat) (p s : ByteArray) (w : World) (h : w.cell? ⟨b, 0, none⟩ = some (.string p)) :
    Calls Tryz.prog 182 #[.pointer (some ⟨b, 0, none⟩), .string s] w fun e w' => e = .returned (.int .i64 (Lib.compareBytes p.data.toList s.data.toList)) ∧ w = w' := by
  have c := fun wx => Tryz.strings_Compare p s wx
  obtain ⟨n, hn⟩ : ∃ n, Lib.compareBytes p.data.toList s.data.toList = n := ⟨_, rfl⟩
  rw [hn] at c ⊢
  clear hn
  go_enter Tryz.func182, Tryz.ntmps182
  go_wp2_with fail
  refine (c _).mono ?_
  rintro e w' ⟨rfl, rfl⟩
  go_wp2
  go_ret
  exact ⟨rfl, rfl⟩

/-- How many children are ahead of a part. -/
def idx (K : List NodeM) (p : List UInt8) : Nat := K.countP fun y => less y.last p
/-- Is there a child of that part? -/
def found (K : List NodeM) (p : List UInt8) : Bool := match K[idx K p]? with
  | some y => y.last == p
  | none => false

theorem countP_edge {α : Type} (q : α → Bool) : ∀ (l : List α) (i : Nat), i ≤ l.length → (∀ t (h : t < l.length), t < i → q l[t] = true) → (∀ t (h : t < l.length), i ≤ t → q l[t] = false) → l.countP q = i
  | [], i, hi, _, _ => by simp at hi; simp [hi]
  | a :: r, 0, _, _, h2 => by
    rw [List.countP_eq_zero]
    intro x hx
    obtain ⟨t, ht, rfl⟩ := List.mem_iff_getElem.1 hx
    rw [h2 t ht (Nat.zero_le _)]; simp
  | a :: r, i + 1, hi, h1, h2 => by
    have ha : q a = true := h1 0 (by simp) (Nat.succ_pos _)
    rw [List.countP_cons_of_pos ha, countP_edge q r i (by simpa using hi) (fun t ht h => h1 (t + 1) (Nat.succ_lt_succ ht) (by omega)) (fun t ht h => h2 (t + 1) (Nat.succ_lt_succ ht) (by omega))]

/-- The binary search among the children. -/
def Lows (K : List NodeM) (p : List UInt8) (lo hi : Nat) : Prop := (∀ t (h : t < K.length), t < lo → less K[t].last p = true) ∧ (∀ t (h : t < K.length), hi ≤ t → less K[t].last p = false)

theorem lows_up {K : List NodeM} {p : List UInt8} {lo hi m : Nat} (hs : K.Pairwise fun x y => less x.last y.last = true) (h : Lows K p lo hi) (hm : m < K.length) (hl : less K[m].last p = true) : Lows K p (m + 1) hi := by
  refine ⟨fun t ht hlt => ?_, h.2⟩
  rcases Nat.lt_or_ge t m with h1 | h1
  · exact less_trans (List.pairwise_iff_getElem.1 hs t m ht hm h1) hl
  · obtain rfl : t = m := by omega
    exact hl

theorem lows_down {K : List NodeM} {p : List UInt8} {lo hi m : Nat} (hs : K.Pairwise fun x y => less x.last y.last = true) (h : Lows K p lo hi) (hm : m < K.length) (hl : less K[m].last p = false) : Lows K p lo m := by
  refine ⟨h.1, fun t ht hlt => ?_⟩
  rcases Nat.lt_or_ge m t with h1 | h1
  · cases e : less K[t].last p
    · rfl
    · have := less_trans (List.pairwise_iff_getElem.1 hs m t hm ht h1) e; rw [hl] at this; cases this
  · obtain rfl : t = m := by omega
    exact hl

theorem lows_end {K : List NodeM} {p : List UInt8} {i : Nat} (hi : i ≤ K.length) (h : Lows K p i i) : idx K p = i := countP_edge _ K i hi h.1 h.2

theorem ret_search {i n : Nat} {b f : Bool} (h : n = i) (k : f = b) : Ending.returned (.tuple #[.int .i64 (i : Int), .bool b]) = .returned (.tuple #[.int .i64 (n : Int), .bool f]) := by rw [h, k]

set_option maxRecDepth 100000 in
set_option maxHeartbeats 1600000 in
theorem search_any (K : List NodeM) (kv : Value) (s : ByteArray) (w : World) (B : Nat) (hn : K.length ≤ 4000000) (hrow : w.ownsRow B 122 1 kv K.length (ptrs K))
    (hbox : ∀ y ∈ K, w.cell? ⟨y.ptr, 0, none⟩ = some (.string (bts y.last))) (hs : K.Pairwise fun x y => less x.last y.last = true) :
    Calls Tryz.prog 181 #[kv, .string s, .func (.func 182) #[] #[]] w fun e w' =>
      e = .returned (.tuple #[.int .i64 (idx K s.data.toList : Nat), .bool (found K s.data.toList)]) ∧ w = w' := by
  by_cases h0 : K.length = 0
  · have e0 : K = [] := List.length_eq_zero_iff.1 h0
    subst e0
    obtain ⟨a, c, rfl⟩ := own_slice hrow
    clear hrow hbox hs
    go_enter Tryz.func181, Tryz.ntmps181
    go_wp2
    go_loopg [9, 10] 0 (fun k i j wr => i = .int .i64 0 ∧ j = .int .i64 0 ∧ wr = w)
    case atStart => exact ⟨rfl, rfl, rfl⟩
    case round =>
      obtain ⟨rfl, rfl, rfl⟩ := hrel
      go_wp2
      go_ret2
      exact ⟨rfl, rfl⟩
  · have hpos : 0 < K.length := by omega
    obtain ⟨g, cap, rfl, hc⟩ : ∃ g cap, kv = .slice (some ⟨g, 0, none⟩) K.length cap ∧ ∀ t (h : t < K.length), w.cell? ⟨g, t, none⟩ = some (.pointer (some ⟨K[t].ptr, 0, none⟩)) := by
      rcases hrow.2 with ⟨rfl, h⟩ | ⟨g, cap, cur, rfl, _⟩
      · omega
      · refine ⟨g, cap, rfl, fun t ht => ?_⟩
        have := hrow.cellAt t (by omega)
        rw [this, ptrs, List.getElem?_map, List.getElem?_eq_getElem ht]; rfl
    have CC := Lib.hid (fun t (h : t < K.length) => kidCmp_any K[t].ptr (bts K[t].last) s w (hbox _ (List.getElem_mem h)))
    have HC := Lib.hid hc
    have HS := Lib.hid hs
    clear hrow hbox hc hs h0
    obtain ⟨p, hp⟩ : ∃ p, s.data.toList = p := ⟨_, rfl⟩
    rw [hp] at CC ⊢
    clear hp
    go_enter Tryz.func181, Tryz.ntmps181
    go_wp2
    go_loopg [9, 10] K.length (fun kx s9 s10 wr => ∃ lo hi : Nat, s9 = .int .i64 lo ∧ s10 = .int .i64 hi ∧ lo ≤ hi ∧ hi ≤ K.length ∧ hi - lo ≤ kx ∧ wr = w ∧ Hid (Lows K p lo hi))
    case atStart => exact ⟨0, K.length, rfl, rfl, Nat.zero_le _, Nat.le_refl _, by omega, rfl, Lib.hid ⟨fun t h h2 => absurd h2 (Nat.not_lt_zero _), fun t h h2 => by omega⟩⟩
    case round =>
      obtain ⟨lo, hi, rfl, rfl, hlh, hin, hg, rfl, HL⟩ := hrel
      by_cases hlt : lo < hi
      · have hm : (lo + hi) / 2 < K.length := by omega
        have hcell := HC.out _ hm
        have cc := CC.out _ hm
        have HU := Lib.hid (fun h => lows_up HS.out HL.out hm h)
        have HD := Lib.hid (fun h => lows_down HS.out HL.out hm h)
        rw [← cmp_neg] at HU HD
        rw [bts_list] at cc
        obtain ⟨n, hnn⟩ : ∃ n, Lib.compareBytes K[(lo + hi) / 2].last p = n := ⟨_, rfl⟩
        obtain ⟨b, hb⟩ : ∃ b, K[(lo + hi) / 2].ptr = b := ⟨_, rfl⟩
        rw [hnn] at cc HU HD
        rw [hb] at cc hcell
        have CX := Lib.hid cc
        clear hnn hb cc
        by_cases hyx : n < 0
        · have HN : Hid (Lows K p ((lo + hi) / 2 + 1) hi) := Lib.hid (HU.out (decide_eq_true hyx))
          clear HU HD HL
          go_wp2_with (go_at_call 182; refine CX.out.mono ?_; rintro e w' ⟨rfl, rfl⟩)
          go_roundg (hi - ((lo + hi) / 2 + 1))
          case measure => omega
          case rel => exact ⟨(lo + hi) / 2 + 1, hi, by rw [show ((lo : Int) + (hi : Int)) / 2 + 1 = (((lo + hi) / 2 + 1 : Nat) : Int) by omega], rfl, by omega, hin, Nat.le_refl _, by trivial, HN⟩
        · have HN : Hid (Lows K p lo ((lo + hi) / 2)) := Lib.hid (HD.out (decide_eq_false hyx))
          clear HU HD HL
          go_wp2_with (go_at_call 182; refine CX.out.mono ?_; rintro e w' ⟨rfl, rfl⟩)
          go_roundg ((lo + hi) / 2 - lo)
          case measure => omega
          case rel => exact ⟨lo, (lo + hi) / 2, rfl, by rw [show ((lo : Int) + (hi : Int)) / 2 = (((lo + hi) / 2 : Nat) : Int) by omega], by omega, by omega, Nat.le_refl _, by trivial, HN⟩
      · obtain rfl : hi = lo := by omega
        have HE := Lib.hid (lows_end hin HL.out)
        by_cases hne : hi < K.length
        · have hcell := HC.out _ hne
          have cc := CC.out _ hne
          have HF : Hid (found K p = decide (Lib.compareBytes K[hi].last p = 0)) := Lib.hid (by rw [found, HE.out, List.getElem?_eq_getElem hne, cmp_zero])
          rw [bts_list] at cc
          obtain ⟨n, hnn⟩ : ∃ n, Lib.compareBytes K[hi].last p = n := ⟨_, rfl⟩
          obtain ⟨b, hb⟩ : ∃ b, K[hi].ptr = b := ⟨_, rfl⟩
          rw [hnn] at cc HF
          rw [hb] at cc hcell
          have CX := Lib.hid cc
          clear hnn hb cc HL
          by_cases hyx : n = 0
          · have h1 : (n == 0) = true := beq_iff_eq.2 hyx
            have HF2 : Hid (found K p = true) := Lib.hid (by rw [HF.out]; exact decide_eq_true hyx)
            clear hyx HF
            go_wp2_with (go_at_call 182; refine CX.out.mono ?_; rintro e w' ⟨rfl, rfl⟩)
            go_ret2
            exact ⟨ret_search HE.out HF2.out, rfl⟩
          · have h1 : (n == 0) = false := beq_eq_false_iff_ne.2 hyx
            have HF2 : Hid (found K p = false) := Lib.hid (by rw [HF.out]; exact decide_eq_false hyx)
            clear hyx HF
            go_wp2_with (go_at_call 182; refine CX.out.mono ?_; rintro e w' ⟨rfl, rfl⟩)
            go_ret2
            exact ⟨ret_search HE.out HF2.out, rfl⟩
        · have HF : Hid (found K p = false) := Lib.hid (by rw [found, HE.out, List.getElem?_eq_none (by omega)])
          clear HL
          go_wp2
          go_ret2
          exact ⟨ret_search HE.out HF.out, rfl⟩

end Go.Proofs.YtmfbffhbgelnnaaGreatDoor

/- Rows of subs that a call owns. -/
namespace Go.Proofs.YtmfbffhbgelnnaaGreatDoor
open Go.RowKit

/-- The cells of a row of subs whose queues are these values. -/
def sucells : List SubM → List Value → List Value
  | s :: l, u :: us => scells s u ++ sucells l us
  | _, _ => []
abbrev sagg (s : SubM) (u : Value) : Value := .agg #[.string s.fil, .int .i64 s.box.cap, .int .i64 s.box.pol, u, .int .i64 s.box.ofr, .int .i64 s.box.rcv, .int .i64 s.box.drp, .int .i64 s.box.mrg, .bool s.box.shut, .bool s.live]
theorem scells_length (s : SubM) (u : Value) : (scells s u).length = 10 := rfl
theorem sucells_length : ∀ (l : List SubM) (us : List Value), us.length = l.length → (sucells l us).length = l.length * 10
  | [], _, _ => by simp [sucells]
  | x :: l, u :: us, h => by simp only [List.length_cons, Nat.add_right_cancel_iff] at h; simp only [sucells, List.length_append, List.length_cons, List.length_nil, sucells_length l us h]; omega
  | x :: l, [], h => by simp at h
theorem sucells_at : ∀ (l : List SubM) (us : List Value) (j i : Nat) (h : j < l.length) (h2 : j < us.length), i < 10 → (sucells l us)[j * 10 + i]? = (scells l[j] us[j])[i]?
  | x :: l, u :: us, 0, i, _, _, hi => by
    rw [sucells, Nat.zero_mul, Nat.zero_add, List.getElem?_append_left (by rw [scells_length]; exact hi)]; rfl
  | x :: l, u :: us, j + 1, i, h, h2, hi => by
    rw [sucells, show (j + 1) * 10 + i = 10 + (j * 10 + i) by omega, List.getElem?_append_right (by rw [scells_length]; omega), scells_length, Nat.add_sub_cancel_left, sucells_at l us j i (by simpa using h) (by simpa using h2) hi]
    rfl
theorem sucells_none {l : List SubM} {us : List Value} (h : us.length = l.length) {i : Nat} (hi : l.length * 10 ≤ i) : (sucells l us)[i]? = none := List.getElem?_eq_none (by rw [sucells_length l us h]; exact hi)
theorem sucells_set (l : List SubM) (us : List Value) (j : Nat) (x : SubM) (u : Value) (h : us.length = l.length) (hj : j < l.length) : setL (sucells l us) (j * 10) (scells x u) = sucells (l.set j x) (us.set j u) := by
  apply List.ext_getElem?
  intro i
  by_cases hi : i < l.length * 10
  · obtain ⟨q, r, rfl, hr⟩ : ∃ q r, i = q * 10 + r ∧ r < 10 := ⟨i / 10, i % 10, by omega, by omega⟩
    have hq : q < l.length := by omega
    rw [sucells_at (l.set j x) (us.set j u) q r (by simpa using hq) (by simp; omega) hr]
    by_cases e : q = j
    · subst e
      rw [setL_in _ _ _ _ (by rw [scells_length]; exact hr) (by rw [sucells_length l us h, scells_length]; omega)]
      simp only [List.getElem_set_self]
    · rw [setL_out _ _ _ _ (by rw [scells_length]; omega), sucells_at l us q r hq (by omega) hr]
      simp only [List.getElem_set_ne (Ne.symm e)]
  · rw [setL_out _ _ _ _ (by rw [scells_length]; omega), sucells_none h (by omega), sucells_none (by simp [h]) (by simp; omega)]

def subZ : SubM := ⟨⟨#[]⟩, zeroBox, false⟩
theorem madeCells_ten (n : Nat) : (madeCells #[.string ⟨#[]⟩, .int .i64 0, .int .i64 0, .slice none 0 0, .int .i64 0, .int .i64 0, .int .i64 0, .int .i64 0, .bool false, .bool false] (n * 10)).toList = sucells (List.replicate n subZ) (List.replicate n (.slice none 0 0)) := by
  apply List.ext_getElem?
  intro i
  by_cases hi : i < n * 10
  · obtain ⟨q, r, rfl, hr⟩ : ∃ q r, i = q * 10 + r ∧ r < 10 := ⟨i / 10, i % 10, by omega, by omega⟩
    rw [sucells_at _ _ q r (by simp; omega) (by simp; omega) hr]
    simp only [List.getElem_replicate]
    match r, hr with
    | 0, _ => rw [Nat.add_zero] at hi ⊢; simp [madeCells, hi, Nat.add_mod, subZ, zeroBox]
    | 1, _ => simp [madeCells, hi, Nat.add_mod, subZ, zeroBox]
    | 2, _ => simp [madeCells, hi, Nat.add_mod, subZ, zeroBox]
    | 3, _ => simp [madeCells, hi, Nat.add_mod, subZ, zeroBox]
    | 4, _ => simp [madeCells, hi, Nat.add_mod, subZ, zeroBox]
    | 5, _ => simp [madeCells, hi, Nat.add_mod, subZ, zeroBox]
    | 6, _ => simp [madeCells, hi, Nat.add_mod, subZ, zeroBox]
    | 7, _ => simp [madeCells, hi, Nat.add_mod, subZ, zeroBox]
    | 8, _ => simp [madeCells, hi, Nat.add_mod, subZ, zeroBox]
    | 9, _ => simp [madeCells, hi, Nat.add_mod, subZ, zeroBox]
  · rw [List.getElem?_eq_none (by simp [size_madeCells]; omega), sucells_none (by simp) (by simp; omega)]

/-- v is an own row of the subs l; their queues qs are own rows too; no two share a block. -/
def SOwnU (w : World) (B : Nat) (v : Value) (l : List SubM) (qs : List Value) : Prop :=
  qs.length = l.length ∧ w.ownsRow B 64 10 v l.length (sucells l qs) ∧
    (∀ j (h : j < l.length) (h2 : j < qs.length), MOwn w B qs[j] l[j].box.q) ∧ (v :: qs).Pairwise Apart
def SOwn (w : World) (B : Nat) (v : Value) (l : List SubM) : Prop := ∃ qs, SOwnU w B v l qs

theorem own_subs_at {w : World} {B : Nat} {v : Value} {l : List SubM} (h : SOwn w B v l) : SubsAt w v l := by
  obtain ⟨us, h1, h2, h3, _⟩ := h
  rcases h2.2 with ⟨rfl, h0⟩ | ⟨g, cap, cur, rfl, _, _, h4, h5, _, _⟩
  · exact ⟨none, 0, by rw [h0], by omega, by unfold maxLen; omega, .inl (List.length_eq_zero_iff.1 h0)⟩
  · refine ⟨_, cap, rfl, h4, h5, .inr ⟨g, 0, rfl, fun j hj => ⟨us[j]'(by omega), own_msgs_at (h3 j hj (by omega)), fun i u hu => ?_⟩⟩⟩
    have hi : i < 10 := (List.getElem?_eq_some_iff.1 hu).1
    rw [Nat.zero_add, h2.cellAt _ (by omega), sucells_at l us j i hj (by omega) hi, hu]
theorem SOwnU.below {w w' : World} {B : Nat} {v : Value} {l : List SubM} {us : List Value} (h : SOwnU w B v l us) (hb : Below w.heap.size w w') : SOwnU w' B v l us :=
  ⟨h.1, row_below h.2.1 hb, fun j h1 h2 => row_below (h.2.2.1 j h1 h2) hb, h.2.2.2⟩
theorem SOwn.below {w w' : World} {B : Nat} {v : Value} {l : List SubM} (h : SOwn w B v l) (hb : Below w.heap.size w w') : SOwn w' B v l := by
  obtain ⟨us, h⟩ := h; exact ⟨us, h.below hb⟩
theorem SOwnU.mono {w : World} {A B : Nat} {v : Value} {l : List SubM} {us : List Value} (h : SOwnU w B v l us) (hA : A ≤ B) : SOwnU w A v l us :=
  ⟨h.1, own_mono h.2.1 hA, fun j h1 h2 => own_mono (h.2.2.1 j h1 h2) hA, h.2.2.2⟩
theorem SOwnU.lt {w : World} {B : Nat} {v : Value} {l : List SubM} {us : List Value} (h : SOwnU w B v l us) : ∀ x ∈ v :: us, ∀ b, x.ownBlock = some b → B ≤ b ∧ b < w.heap.size := by
  intro x hx b hb
  rcases List.mem_cons.1 hx with rfl | hx
  · exact h.2.1.lt b hb
  · obtain ⟨j, hj, rfl⟩ := List.mem_iff_getElem.1 hx
    exact (h.2.2.1 j (by have := h.1; omega) hj).lt b hb
theorem SOwnU.keptL {w w' : World} {vs us : List Value} {B : Nat} {v : Value} {l : List SubM} (h : SOwnU w B v l us) (hg : GrownL w w' vs) (ap : ∀ y ∈ v :: us, ∀ x ∈ vs, Apart y x) : SOwnU w' B v l us :=
  ⟨h.1, own_keptL h.2.1 hg (ap v List.mem_cons_self), fun j h1 h2 => own_keptL (h.2.2.1 j h1 h2) hg (ap _ (List.mem_cons_of_mem _ (List.getElem_mem h2))), h.2.2.2⟩
theorem SOwnU.grownN {w w' : World} {B g : Nat} {v : Value} {l : List SubM} {us : List Value} (h : SOwnU w B v l us) (hg : g < B) (hw : w.grownBy w' (some g)) : SOwnU w' B v l us :=
  ⟨h.1, own_keptC h.2.1 hw (fun e => by have := (h.2.1.lt g e).1; omega), fun j h1 h2 => own_keptC (h.2.2.1 j h1 h2) hw (fun e => by have := ((h.2.2.1 j h1 h2).lt g e).1; omega), h.2.2.2⟩
theorem sown_none (w : World) (B : Nat) : SOwnU w B (.slice none 0 0) [] [] := ⟨rfl, World.ownsRow_nil _ _ _ _, fun j h => by simp at h, by simp⟩

/-- A sub laid into its place: with a queue that was made later than all the others. -/
theorem SOwnU.put {w : World} {B g n cap k N : Nat} {l : List SubM} {us : List Value} {x : SubM} {u : Value} (h : SOwnU w B (.slice (some ⟨g, 0, none⟩) n cap) l us) (hn : n = l.length) (hk : k < l.length)
    (ho : MOwn w B u x.box.q) (hN : ∀ y ∈ (.slice (some ⟨g, 0, none⟩) n cap) :: us, ∀ b, y.ownBlock = some b → b < N) (hu : ∀ b, u.ownBlock = some b → N ≤ b) :
    SOwnU (w.setCells g (k * 10) (scells x u)) B (.slice (some ⟨g, 0, none⟩) n cap) (l.set k x) (us.set k u) := by
  subst hn
  have hap := h.2.2.2
  have hG := grown_setCells g (scells x u) (k * 10) w
  have hg : g < N := hN _ List.mem_cons_self g rfl
  have hug : u.ownBlock ≠ some g := fun e => by have := hu g e; omega
  refine ⟨by simp [h.1], ?_, fun j h1 h2 => ?_, apart_set hap fun y hy => ?_⟩
  · rw [List.length_set, ← sucells_set l us k x u h.1 hk]
    exact own_setCells _ _ h.2.1
  · rw [List.length_set] at h1 h2
    rw [List.getElem_set]
    simp only [List.getElem_set]
    split
    · exact own_keptC ho hG hug
    · have hne : us[j].ownBlock ≠ some g := by
        have := (List.pairwise_cons.1 hap).1 us[j] (List.getElem_mem _)
        rcases this with h | h
        · cases h
        · exact fun e => h e.symm
      exact own_keptC (h.2.2.1 j h1 h2) hG hne
  · cases e : u.ownBlock with
    | none => exact .inl e
    | some b => exact .inr (fun e2 => by have h1 := hu b e; have h2 := hN y hy b (by rw [← e2, e]); omega)

end Go.Proofs.YtmfbffhbgelnnaaGreatDoor

/- slices.IndexFunc and slices.ContainsFunc at subs, with whatever closure that only makes memory of its own. -/
namespace Go.Proofs.YtmfbffhbgelnnaaGreatDoor
open Go.RowKit

/-- What is asked of the closure. -/
def PredS (g : Nat) (lb : Array Value) (p : SubM → Bool) (l : List SubM) (w : World) : Prop :=
  ∀ (W : World) (x : SubM) (u : Value), x ∈ l → Below w.heap.size w W → MsgsAt W u x.box.q → Calls Tryz.prog g (#[sagg x u] ++ lb) W fun e w' => e = .returned (.bool (p x)) ∧ Below W.heap.size W w'

set_option maxRecDepth 100000 in
set_option maxHeartbeats 3200000 in
theorem indexS_any (v : Value) (l : List SubM) (pr : SubM → Bool) (g : Nat) (lb : Array Value) (eg : ∀ args w, (callFunc g args).run Tryz.prog w = .ok (.enter g args) w) (w : World) (hl : l.length ≤ 2000000) (hv : SubsAt w v l) (hp : PredS g lb pr l w) :
    Calls Tryz.prog 114 #[v, .func (.func g) #[] lb] w fun e w' =>
      ∃ z : Int, e = .returned (.int .i64 z) ∧ ((z = -1 ∧ ∀ x ∈ l, pr x = false) ∨ ∃ k : Nat, z = k ∧ ∃ h : k < l.length, pr l[k] = true) ∧ Below w.heap.size w w' := by
  have HV := Lib.hid hv
  obtain ⟨a, c, rfl, hc1, hc2, hc3⟩ := hv
  have HP := Lib.hid hp
  clear hc3 hp
  go_enter Tryz.func114, Tryz.ntmps114
  go_wp2
  go_loopw [8] (fun i wr => ∃ k : Nat, k ≤ l.length ∧ i = .int .i64 k ∧ Hid (∀ j (hj : j < k) (hk : j < l.length), pr l[j] = false) ∧ Hid (Below w.heap.size w wr)) (fun i _ => l.length - (intOf i).toNat)
  case atStart => exact ⟨0, Nat.zero_le _, rfl, Lib.hid (fun j hj => absurd hj (Nat.not_lt_zero _)), Lib.hid (Below.refl _ _)⟩
  case round =>
    obtain ⟨k, hk, rfl, HT, HB⟩ := hrel
    by_cases hlt : k < l.length
    · obtain ⟨bb, oo, rfl, hin⟩ : ∃ bb oo, a = some ⟨bb, oo, none⟩ ∧ ∀ (j : Nat) (hj : j < l.length), SubIn wr bb (oo + j * 10) l[j] := by
        obtain ⟨a', c', he, _, _, h3⟩ := HV.out.below HB.out
        cases he
        rcases h3 with h | h
        · rw [h] at hlt; simp at hlt
        · exact h
      obtain ⟨us, hq, hra⟩ := hin k hlt
      have CX := Lib.hid (HP.out wr l[k] us (List.getElem_mem hlt) HB.out hq)
      have HG : Hid (pr l[k] = true → (∃ kk : Nat, (k : Int) = kk ∧ ∃ h : kk < l.length, pr l[kk] = true)) := Lib.hid (fun h => ⟨k, rfl, hlt, h⟩)
      have HN : Hid (pr l[k] = false → ∀ j (hj : j < k + 1) (hk : j < l.length), pr l[j] = false) := Lib.hid (fun h j hj hk => by
        rcases Nat.lt_or_ge j k with h1 | h1
        · exact HT.out j h1 hk
        · have : j = k := by omega
          subst this; exact h)
      generalize pr l[k] = gb at CX HG HN
      generalize l[k] = S at hq hra CX
      obtain ⟨qa, qc, rfl, _, _, _⟩ := hq
      have p0 : wr.cell? ⟨bb, oo + k * 10, none⟩ = some (.string S.fil) := hra 0 _ rfl
      have p1 : wr.cell? ⟨bb, oo + k * 10 + 1, none⟩ = some (.int .i64 S.box.cap) := hra 1 _ rfl
      have p2 : wr.cell? ⟨bb, oo + k * 10 + 2, none⟩ = some (.int .i64 S.box.pol) := hra 2 _ rfl
      have p3 : wr.cell? ⟨bb, oo + k * 10 + 3, none⟩ = some (.slice qa S.box.q.length qc) := hra 3 _ rfl
      have p4 : wr.cell? ⟨bb, oo + k * 10 + 4, none⟩ = some (.int .i64 S.box.ofr) := hra 4 _ rfl
      have p5 : wr.cell? ⟨bb, oo + k * 10 + 5, none⟩ = some (.int .i64 S.box.rcv) := hra 5 _ rfl
      have p6 : wr.cell? ⟨bb, oo + k * 10 + 6, none⟩ = some (.int .i64 S.box.drp) := hra 6 _ rfl
      have p7 : wr.cell? ⟨bb, oo + k * 10 + 7, none⟩ = some (.int .i64 S.box.mrg) := hra 7 _ rfl
      have p8 : wr.cell? ⟨bb, oo + k * 10 + 8, none⟩ = some (.bool S.box.shut) := hra 8 _ rfl
      have p9 : wr.cell? ⟨bb, oo + k * 10 + 9, none⟩ = some (.bool S.live) := hra 9 _ rfl
      clear hin hra HT
      cases gb
      · have HT := Lib.hid (HN.out (by trivial))
        go_wp2_with fail
        refine CX.out.mono ?_
        rintro e w1 ⟨rfl, hb⟩
        have B1 := Lib.hid (below_end HB.out hb)
        clear hb p0 p1 p2 p3 p4 p5 p6 p7 p8 p9
        go_wp2
        go_roundw
        case rel => exact ⟨k + 1, by omega, by go_num, HT, B1⟩
        case measure => simp [intOf]; omega
      · have HT := Lib.hid (HG.out (by trivial))
        go_wp2_with fail
        refine CX.out.mono ?_
        rintro e w1 ⟨rfl, hb⟩
        have B1 := Lib.hid (below_end HB.out hb)
        clear hb p0 p1 p2 p3 p4 p5 p6 p7 p8 p9
        go_wp2
        go_ret
        exact ⟨_, rfl, .inr HT.out, B1.out⟩
    · obtain rfl : k = l.length := by omega
      go_wp2
      go_ret
      exact ⟨-1, rfl, .inl ⟨rfl, fun x hx => by obtain ⟨j, hj, rfl⟩ := List.mem_iff_getElem.1 hx; exact HT.out j hj hj⟩, HB.out⟩

set_option maxRecDepth 100000 in
set_option maxHeartbeats 1600000 in
theorem containsS_any (v : Value) (l : List SubM) (pr : SubM → Bool) (g : Nat) (lb : Array Value) (eg : ∀ args w, (callFunc g args).run Tryz.prog w = .ok (.enter g args) w) (w : World) (hl : l.length ≤ 2000000) (hv : SubsAt w v l) (hp : PredS g lb pr l w) :
    Calls Tryz.prog 81 #[v, .func (.func g) #[] lb] w fun e w' => e = .returned (.bool (l.any pr)) ∧ Below w.heap.size w w' := by
  have CI := Lib.hid (indexS_any v l pr g lb eg w hl hv hp)
  obtain ⟨ua, uc, rfl, _, _, _⟩ := hv
  clear hp hl
  go_enter Tryz.func81, Tryz.ntmps81
  go_wp2_with fail
  refine CI.out.mono ?_
  rintro e w1 ⟨z, rfl, hz, hb⟩
  have HB := Lib.hid hb
  clear hb CI
  rcases hz with ⟨rfl, hz⟩ | ⟨k, rfl, hk, hp⟩
  · have HE : Hid (l.any pr = false) := Lib.hid (by rw [List.any_eq_false]; exact fun x hx => by rw [hz x hx]; decide)
    clear hz
    go_wp2
    go_ret
    exact ⟨ret_bool HE.out.symm, HB.out⟩
  · have HE : Hid (l.any pr = true) := Lib.hid (by rw [List.any_eq_true]; exact ⟨l[k], List.getElem_mem hk, hp⟩)
    have g1 : decide ((0 : Int) ≤ (k : Int)) = true := decide_eq_true (by omega)
    clear hp
    go_wp2
    go_ret
    exact ⟨ret_bool HE.out.symm, HB.out⟩

end Go.Proofs.YtmfbffhbgelnnaaGreatDoor

/- The walks of spec.l1IsWord, impl.inRanges and impl.wordOk: each says whether a text is a word, and leaves what was there. -/
namespace Go.Proofs.YtmfbffhbgelnnaaGreatDoor
open Go.RowKit

theorem isWord_bad {s : ByteArray} {k : Nat} (h : k < s.size) (hb : ¬ ((97 ≤ (s[k].toNat : Int) ∧ (s[k].toNat : Int) ≤ 122) ∨ (48 ≤ (s[k].toNat : Int) ∧ (s[k].toNat : Int) ≤ 57))) : isWord s = false := by
  unfold isWord; rw [lowAll_bad s k h (low_no hb)]; rfl

theorem lowAll_next {s : ByteArray} {k : Nat} (h : k < s.size) (hl : lowAll (s.data.toList.take k) = true) (hb : (97 ≤ (s[k].toNat : Int) ∧ (s[k].toNat : Int) ≤ 122) ∨ (48 ≤ (s[k].toNat : Int) ∧ (s[k].toNat : Int) ≤ 57)) : lowAll (s.data.toList.take (k + 1)) = true := by
  rw [lowAll_snoc s k h, hl, low_yes hb]; rfl

theorem isWord_end {s : ByteArray} (hl : lowAll (s.data.toList.take s.size) = true) : isWord s = (decide (1 ≤ s.size) && decide (s.size ≤ 12)) := by
  unfold isWord; rw [lowAll_full] at hl; rw [hl]; rfl

set_option maxRecDepth 100000 in
set_option maxHeartbeats 400000 in
theorem specWord_any (s : ByteArray) (w : World) (hs : s.size ≤ maxLen) :
    Calls Tryz.prog 69 #[.string s] w fun e w' => e = .returned (.bool (isWord s)) ∧ w = w' := by
  unfold maxLen at hs
  go_enter Tryz.func69, Tryz.ntmps69
  go_wp2
  go_loop [3] (fun i => ∃ k : Nat, k ≤ s.size ∧ i = .int .i64 k ∧ lowAll (s.data.toList.take k) = true) (fun i => s.size - (intOf i).toNat)
  case atStart => exact ⟨0, Nat.zero_le _, rfl, rfl⟩
  case round =>
    obtain ⟨k, hk, rfl, hl⟩ := hrel
    have HL := Lib.hid hl
    clear hl
    by_cases hlt : k < s.size
    · go_wp2
      all_goals first
        | (go_round
           case rel => exact ⟨k + 1, by omega, by go_num, lowAll_next hlt HL.out (by grind)⟩
           case measure => simp [intOf]; omega)
        | (go_ret; exact ⟨ret_bool (isWord_bad hlt (by grind)).symm, rfl⟩)
    · obtain rfl : k = s.size := by omega
      have HE := isWord_end HL.out
      clear HL
      have HF := Lib.hid HE
      clear HE
      go_wp2
      all_goals
        go_ret
        exact ⟨ret_bool (by rw [HF.out]; grind), rfl⟩

end Go.Proofs.YtmfbffhbgelnnaaGreatDoor

/- The walks of impl.inRanges and impl.wordOk: whether a text is a word; what was there stays. -/
namespace Go.Proofs.YtmfbffhbgelnnaaGreatDoor
open Go.RowKit

/-- What the ranges a to z and 0 to 9 hold of a rune. -/
def lowR (r : Int) : Bool := (decide (97 ≤ r) && decide (r ≤ 122)) || (decide (48 ≤ r) && decide (r ≤ 57))

set_option maxRecDepth 100000 in
set_option maxHeartbeats 400000 in
theorem inRanges_any0 (r : Int) (b : Nat) (w : World) (hb : b < w.heap.size)
    (hc0 : w.cell? ⟨b, 0, none⟩ = some (.int .i32 97)) (hc1 : w.cell? ⟨b, 1, none⟩ = some (.int .i32 122))
    (hc2 : w.cell? ⟨b, 2, none⟩ = some (.int .i32 48)) (hc3 : w.cell? ⟨b, 3, none⟩ = some (.int .i32 57)) :
    Calls Tryz.prog 143 #[.int .i32 r, .slice (some ⟨b, 0, none⟩) 2 2] w fun e w' => e = .returned (.bool (lowR r)) ∧ Below w.heap.size w w' := by
  go_enter Tryz.func143, Tryz.ntmps143
  go_wp2
  refine wp_loop_rounds 3 ?_
  rw [rounds_succ]
  go_wp2
  · go_ret
    exact ⟨ret_bool (by unfold lowR; grind), (Below.refl _ _).alloc (Nat.le_refl _) _⟩
  all_goals
    rw [rounds_succ]
    go_wp2
    all_goals first
      | (go_ret; exact ⟨ret_bool (by unfold lowR; grind), ((Below.refl _ _).alloc (Nat.le_refl _) _).alloc (by simp) _⟩)
      | (rw [rounds_succ]; go_wp2; go_ret; exact ⟨ret_bool (by unfold lowR; grind), ((Below.refl _ _).alloc (Nat.le_refl _) _).alloc (by simp) _⟩)

theorem inRanges_any (r : Int) (v : Bool) (H : Hid (lowR r = v)) (w : World) :
    Calls Tryz.prog 143 #[.int .i32 r, .slice (some ⟨w.heap.size, 0, none⟩) 2 2] (w.alloc (.cells #[.int .i32 97, .int .i32 122, .int .i32 48, .int .i32 57] 160)) fun e w' => e = .returned (.bool v) ∧ Below (w.heap.size + 1) (w.alloc (.cells #[.int .i32 97, .int .i32 122, .int .i32 48, .int .i32 57] 160)) w' := by
  have hc : ∀ k, (w.alloc (.cells #[.int .i32 97, .int .i32 122, .int .i32 48, .int .i32 57] 160)).cell? ⟨w.heap.size, k, none⟩ = (#[.int .i32 97, .int .i32 122, .int .i32 48, .int .i32 57] : Array Value)[k]? := fun k => by rw [World.cell?_alloc_at _ _ _ _ rfl]
  refine (inRanges_any0 r w.heap.size _ (by simp) (hc 0) (hc 1) (hc 2) (hc 3)).mono ?_
  rintro e w' ⟨rfl, hb⟩
  exact ⟨ret_bool H.out, by simpa using hb⟩

theorem isWord_low {s : ByteArray} {k : Nat} (h : k < s.size) (hb : low s[k] = false) : isWord s = false := by
  unfold isWord; rw [lowAll_bad s k h hb]; rfl

theorem lowR_low {c : UInt8} : lowR (c.toNat : Int) = low c := by
  unfold lowR low; grind

theorem lowR_high {r : Nat} (h : 128 ≤ r) : lowR (r : Int) = false := by
  unfold lowR; grind

theorem decode_bad (s : ByteArray) (pos : Nat) (h : pos < s.size) (hb : low s[pos] = false) : lowR ((Utf8.decode s pos).1 : Int) = false := by
  by_cases ha : (s[pos]'h).toNat < 128
  · rw [decode_ascii s pos h ha]; show lowR ((s[pos].toNat : Nat) : Int) = false; rw [lowR_low, hb]
  · exact lowR_high (decode_high s pos h (by omega)).1

theorem low_ascii {c : UInt8} (h : low c = true) : c.toNat < 128 := by
  unfold low at h; grind

set_option maxRecDepth 100000 in
set_option maxHeartbeats 400000 in
theorem wordOk_any (s : ByteArray) (w : World) (hs : s.size ≤ maxLen) :
    Calls Tryz.prog 124 #[.string s] w fun e w' => e = .returned (.bool (isWord s)) ∧ Below w.heap.size w w' := by
  unfold maxLen at hs
  by_cases h1 : s.size < 1
  · go_enter Tryz.func124, Tryz.ntmps124
    go_wp2
    go_ret
    exact ⟨ret_bool (by unfold isWord; grind), Below.refl _ _⟩
  by_cases h2 : 12 < s.size
  · go_enter Tryz.func124, Tryz.ntmps124
    go_wp2
    go_ret
    exact ⟨ret_bool (by unfold isWord; grind), Below.refl _ _⟩
  go_enter Tryz.func124, Tryz.ntmps124
  go_wp2
  go_loopw [4] (fun _ wr => ∃ pos, wr.heap[w.heap.size]? = some (.stringIter s pos) ∧ pos ≤ s.size ∧ lowAll (s.data.toList.take pos) = true ∧ Below w.heap.size w wr) (fun _ wr => s.size - wr.iterPos w.heap.size)
  case atStart => exact ⟨0, World.iter_heap _ _ _, Nat.zero_le _, rfl, (Below.refl _ _).alloc (Nat.le_refl _) _⟩
  case round =>
    obtain ⟨pos, hit, hp, hl, hbl⟩ := hrel
    have hwlt : w.heap.size < wr.heap.size := (Array.getElem?_eq_some_iff.1 hit).1
    have HL := Lib.hid hl
    have HI := Lib.hid hit
    clear hl hit
    by_cases hlt : pos < s.size
    · cases hlo : low s[pos]
      · obtain ⟨w2, hw2⟩ : ∃ w2, wr.iterAt w.heap.size s (pos + (Utf8.decode s pos).2) = w2 := ⟨_, rfl⟩
        have hnx : ∀ ty, (Instr.next (.pointer (some ⟨w.heap.size, 0, none⟩)) true ty).run Tryz.prog wr = .ok (.tuple #[.bool true, .int .i64 pos, .int .i32 (Utf8.decode s pos).1]) w2 := fun ty => by rw [← hw2]; exact Lib.run_next_any_at wr _ s pos ty HI.out hlt
        obtain ⟨r, hr⟩ : ∃ r : Int, ((Utf8.decode s pos).1 : Int) = r := ⟨_, rfl⟩
        rw [hr] at hnx
        have hbad := decode_bad s pos hlt hlo
        rw [hr] at hbad
        have HB := Lib.hid hbad
        have HW := Lib.hid (show Below w.heap.size w w2 by rw [← hw2]; exact Lib.below_iterAt hbl (Nat.le_refl _) _ _)
        have hsz : w.heap.size < w2.heap.size := by rw [← hw2, Lib.iterAt_size]; exact hwlt
        have HE := Lib.hid (isWord_low hlt hlo)
        clear hw2 hbl hr hbad hlo
        go_wp2_with (go_at_call 143; refine (inRanges_any r false HB w2).mono ?_; rintro e w' ⟨rfl, hb2⟩)
        go_ret
        exact ⟨ret_bool HE.out.symm, (HW.out.alloc (Nat.le_of_lt hsz) _).trans (hb2.mono (by omega))⟩
      · obtain ⟨w2, hw2⟩ : ∃ w2, wr.iterAt w.heap.size s (pos + 1) = w2 := ⟨_, rfl⟩
        have hnx : ∀ ty, (Instr.next (.pointer (some ⟨w.heap.size, 0, none⟩)) true ty).run Tryz.prog wr = .ok (.tuple #[.bool true, .int .i64 pos, .int .i32 (s[pos].toNat : Int)]) w2 := fun ty => by rw [← hw2]; exact Lib.run_next_ascii_at wr _ s pos ty HI.out hlt (low_ascii hlo)
        have HB : Hid (lowR (s[pos].toNat : Int) = true) := Lib.hid (by rw [lowR_low]; exact hlo)
        have HN : Hid (lowAll (s.data.toList.take (pos + 1)) = true) := Lib.hid (by rw [lowAll_snoc s pos hlt, HL.out, hlo]; rfl)
        obtain ⟨r, hr⟩ : ∃ r : Int, (s[pos].toNat : Int) = r := ⟨_, rfl⟩
        rw [hr] at hnx HB
        have HW := Lib.hid (show Below w.heap.size w w2 by rw [← hw2]; exact Lib.below_iterAt hbl (Nat.le_refl _) _ _)
        have HJ : Hid (w2.heap[w.heap.size]? = some (.stringIter s (pos + 1))) := Lib.hid (by rw [← hw2]; exact Lib.iterAt_heap _ _ _ _ _ HI.out)
        have hsz : w.heap.size < w2.heap.size := by rw [← hw2, Lib.iterAt_size]; exact hwlt
        clear hw2 hbl hr hlo
        go_wp2_with (go_at_call 143; refine (inRanges_any r true HB w2).mono ?_; rintro e w' ⟨rfl, hb2⟩)
        go_roundw
        case rel =>
          refine ⟨pos + 1, ?_, by omega, HN.out, (HW.out.alloc (Nat.le_of_lt hsz) _).trans (hb2.mono (by omega))⟩
          rw [hb2.block _ (by omega), Below.heap_alloc _ _ _ hsz]; exact HJ.out
        case measure =>
          have e1 : wr.iterPos w.heap.size = pos := iterPos_of HI.out
          have e2 : w'.iterPos w.heap.size = pos + 1 := iterPos_of (by rw [hb2.block _ (by omega), Below.heap_alloc _ _ _ hsz]; exact HJ.out)
          rw [e1, e2]; omega
    · have hnx : ∀ ty, (Instr.next (.pointer (some ⟨w.heap.size, 0, none⟩)) true ty).run Tryz.prog wr = .ok (.tuple #[.bool false]) wr := fun ty => Lib.run_next_end_at wr _ s pos ty HI.out hlt
      obtain rfl : pos = s.size := by omega
      have HE := Lib.hid (isWord_end HL.out)
      have HW := Lib.hid hbl
      clear hbl HL
      go_wp2
      go_ret
      exact ⟨ret_bool (by rw [HE.out]; grind), HW.out⟩

end Go.Proofs.YtmfbffhbgelnnaaGreatDoor

/- The walks of spec.l1Split and spec.PartsOf: the list of the parts, in memory of the call's own. -/
namespace Go.Proofs.YtmfbffhbgelnnaaGreatDoor
open Go.RowKit

theorem Tryz.infoString : (Tryz.prog.info? 9).map (fun i => (i.zero, i.size, i.bytes)) = some (some (.string ByteArray.empty), 1, 16) := by kernel_rfl

/-- The cells of a list of texts. -/
abbrev texts (l : List ByteArray) : List Value := l.map Value.string

theorem texts_snoc (l : List ByteArray) (x : ByteArray) : texts l ++ [.string x] = texts (l ++ [x]) := by simp [texts]

theorem one_string (x : ByteArray) : ∀ u ∈ [Value.string x], u.oneCell' = true := by
  intro u hu; simp at hu; subst hu; rfl

/-- What an append of one text has done: below B all is as it was. -/
theorem below_append {B : Nat} {w wr w' : World} {v : Value} {n : Nat} {xs : List Value} {o : Obj} {e : TypeId} {size : Nat} (hB : B ≤ wr.heap.size) (h : Below B w wr) (hown : wr.ownsRow B e size v n xs) (hg : (wr.alloc o).grownBy w' v.ownBlock) : Below B w w' :=
  (h.alloc hB o).grown hg (by simp; omega) (fun k hk => (hown.lt k hk).1)

set_option maxRecDepth 100000 in
set_option maxHeartbeats 800000 in
theorem specSplit_any (s : ByteArray) (c : UInt8) (w : World) (hs : s.size ≤ 1048576) :
    Calls Tryz.prog 108 #[.string s, .int .u8 (c.toNat : Int)] w fun e w' =>
      ∃ v, e = .returned v ∧ w'.ownsRow w.heap.size 9 1 v (parts s c).length (texts (parts s c)) ∧ Below w.heap.size w w' := by
  obtain ⟨i0, hi, hz0, hz1, hz2⟩ := info_parts Tryz.infoString
  go_enter Tryz.func108, Tryz.ntmps108
  go_wp2
  go_loopw [5, 6, 7] (fun v f i wr => ∃ (k fr : Nat) (l : List ByteArray), Hid (cutTo s c k = (l, fr)) ∧ k ≤ s.size + 1 ∧ fr ≤ k ∧ l.length ≤ k ∧ i = .int .i64 k ∧ f = .int .i64 fr ∧
      Hid (wr.ownsRow w.heap.size 9 1 v l.length (texts l)) ∧ Hid (Below w.heap.size w wr)) (fun _ _ i _ => s.size + 1 - (intOf i).toNat)
  case atStart => exact ⟨0, 0, [], rfl, Nat.zero_le _, Nat.zero_le _, Nat.zero_le _, rfl, rfl, World.ownsRow_made _ _ _ (Nat.le_refl _) (Nat.zero_le _) rfl, (Below.refl _ _).alloc (Nat.le_refl _) _⟩
  case round =>
    obtain ⟨k, fr, l, HC, hk, hfr, hl, rfl, rfl, H1, H2⟩ := hrel
    by_cases hd : k ≤ s.size
    · by_cases hhit : s.size ≤ k ∨ s.data.toList[k]? = some c
      · have HH : Hid (cutTo s c (k + 1) = (l ++ [s.extract fr k], k + 1)) := Lib.hid (by rw [cutTo_hit hhit, HC.out])
        have htest : k = s.size ∨ (k < s.size ∧ ∃ h : k < s.size, ((s[k].toNat : Int) == (c.toNat : Int)) = true) := by
          rcases hhit with h | h
          · exact .inl (by omega)
          · by_cases e : k = s.size
            · exact .inl e
            · refine .inr ⟨by omega, by omega, ?_⟩
              have hk2 : k < s.data.toList.length := show k < s.size by omega
              rw [List.getElem?_eq_getElem hk2] at h
              have e3 : s[k] = c := Option.some.inj h
              rw [e3]; simp
        clear hhit
        have htest2 : ((k : Int) == (s.size : Int)) = true ∨ (k < s.size ∧ ∃ h : k < s.size, ((s[k].toNat : Int) == (c.toNat : Int)) = true) := by
          rcases htest with h | h
          · exact .inl (by subst h; simp)
          · exact .inr h
        clear htest
        rcases htest2 with hc | ⟨hlt, hlt2, hc⟩
        all_goals
          go_wp2_with (at_builtin; go_must (refine wpList_append_own _ rfl _ _ 99 rfl w.heap.size 9 i0 (.string ByteArray.empty) 1 16 Tryz.underlying99 hi hz0 hz1 hz2 rfl (by decide) _ _ _ rfl (H1.out.alloc _) ⟨wr.heap.size, 0, none⟩ 1 1 [.string (s.extract fr k)] rfl rfl (cell_one_new _ _ _) (one_string _) (by unfold maxLen; omega) (by omega) (by have := H2.out.size; simp; omega) ?_))
          intro v' w1 hown' hgrow _
          have R1 : Hid (w1.ownsRow w.heap.size 9 1 v' (l ++ [s.extract fr k]).length (texts (l ++ [s.extract fr k]))) := Lib.hid (by rw [← texts_snoc]; simpa using hown')
          have R2 : Hid (Below w.heap.size w w1) := Lib.hid (below_append H2.out.size H2.out H1.out hgrow)
          clear hown' hgrow H1 H2 HC
          go_wp2
          go_roundw
          case rel => exact ⟨k + 1, k + 1, l ++ [s.extract fr k], HH, by omega, Nat.le_refl _, by simp; omega, by go_num, by go_num, R1, R2⟩
          case measure => simp [intOf]; omega
      · have HH : Hid (cutTo s c (k + 1) = (l, fr)) := Lib.hid (by rw [cutTo_miss (by omega) (fun e => hhit (.inr e)), HC.out])
        have hlt : k < s.size := by omega
        have hc : ((s[k].toNat : Int) == (c.toNat : Int)) = false := by
          have hk2 : k < s.data.toList.length := hlt
          have h3 : s[k] ≠ c := fun e => hhit (.inr (by rw [List.getElem?_eq_getElem hk2]; exact congrArg some e))
          rw [beq_eq_false_iff_ne]
          intro e
          exact h3 (UInt8.toNat_inj.1 (by omega))
        have hc0 : ((k : Int) == (s.size : Int)) = false := by rw [beq_eq_false_iff_ne]; omega
        clear hhit HC
        go_wp2
        go_roundw
        case rel => exact ⟨k + 1, fr, l, HH, by omega, by omega, by omega, by go_num, rfl, H1, H2⟩
        case measure => simp [intOf]; omega
    · obtain rfl : k = s.size + 1 := by omega
      have HP : Hid (parts s c = l) := Lib.hid (by unfold parts; rw [HC.out])
      clear HC
      go_wp2
      go_ret
      exact ⟨_, rfl, by rw [HP.out]; exact H1.out, H2.out⟩

theorem specParts_any (s : ByteArray) (w : World) (hs : s.size ≤ 1048576) :
    Calls Tryz.prog 68 #[.string s] w fun e w' =>
      ∃ v, e = .returned v ∧ w'.ownsRow w.heap.size 9 1 v (parts s 47).length (texts (parts s 47)) ∧ Below w.heap.size w w' := by
  go_enter Tryz.func68, Tryz.ntmps68
  go_wp2_with (go_at_call 108; refine (specSplit_any s 47 w hs).mono ?_; rintro e w' ⟨v, rfl, h1, h2⟩)
  go_ret
  exact ⟨_, rfl, h1, h2⟩

end Go.Proofs.YtmfbffhbgelnnaaGreatDoor

/- A row of texts, opened. -/
namespace Go.Proofs.YtmfbffhbgelnnaaGreatDoor
open Go.RowKit

/-- A row of texts that the call owns, opened: where it lies, and each cell. -/
theorem row_open {w : World} {B : Nat} {v : Value} {l : List ByteArray} {E : TypeId} (h : w.ownsRow B E 1 v l.length (texts l)) (hl : 0 < l.length) :
    ∃ g cap, v = .slice (some ⟨g, 0, none⟩) l.length cap ∧ B ≤ g ∧ g < w.heap.size ∧ (∀ j (hj : j < l.length), w.cell? ⟨g, j, none⟩ = some (.string l[j])) ∧ (∀ j, w.frozen? ⟨g, j, none⟩ = false) := by
  obtain ⟨g, cap, rfl⟩ := Joins.ownsRow_form h hl
  have hlt := h.lt g rfl
  refine ⟨g, cap, rfl, hlt.1, hlt.2, fun j hj => ?_, fun j => h.frozenAt j⟩
  rw [h.cellAt j (by omega)]
  simp [texts, hj]

end Go.Proofs.YtmfbffhbgelnnaaGreatDoor

/- The walk of cmp.Compare at strings; how messages are ordered. -/
namespace Go.Proofs.YtmfbffhbgelnnaaGreatDoor
open Go.RowKit Go.Sort

def cmpT (a b : ByteArray) : Int := if ltT a b then -1 else if ltT b a then 1 else 0
def cmpI (a b : Int) : Int := if a < b then -1 else if b < a then 1 else 0
def topicC (a b : MsgM) : Int := cmpT a.2.2.1 b.2.2.1
def seqC (a b : MsgM) : Int := if cmpI a.1 b.1 = 0 then topicC a b else cmpI a.1 b.1

theorem cmpT_lt (a b : ByteArray) : decide (cmpT a b < 0) = ltT a b := by
  unfold cmpT
  cases h : ltT a b
  · cases ltT b a <;> simp
  · simp

theorem ltT_ntrans {a b c : ByteArray} (h1 : ltT a b = false) (h2 : ltT b c = false) : ltT a c = false := by
  rcases ltT_tri a b with h | h | h
  · rw [h1] at h; cases h
  · cases h3 : ltT a c
    · rfl
    · rw [sameT_lt h h3] at h2; cases h2
  · rcases ltT_tri b c with h3 | h3 | h3
    · rw [h2] at h3; cases h3
    · cases h4 : ltT a c
      · rfl
      · have h5 := ltT_trans h h4
        rw [h2] at h5; cases h5
    · cases h4 : ltT a c
      · rfl
      · have := ltT_trans h4 h3
        have h5 := ltT_asymm h
        rw [this] at h5; cases h5

theorem topicC_lt (a b : MsgM) : ltOf topicC a b = ltT a.2.2.1 b.2.2.1 := cmpT_lt _ _

theorem topicC_swo : SWO (ltOf topicC) where
  irrefl x := by rw [topicC_lt]; exact ltT_irrefl _
  trans x y z h1 h2 := by rw [topicC_lt] at *; exact ltT_trans h1 h2
  ntrans x y z h1 h2 := by rw [topicC_lt] at *; exact ltT_ntrans h1 h2

def seqLt (a b : MsgM) : Bool := decide (a.1 < b.1) || (decide (a.1 = b.1) && ltT a.2.2.1 b.2.2.1)

theorem seqC_lt (a b : MsgM) : ltOf seqC a b = seqLt a b := by
  unfold ltOf seqC seqLt cmpI
  by_cases h1 : a.1 < b.1
  · simp [h1]
  · by_cases h2 : b.1 < a.1
    · have : ¬ a.1 = b.1 := by omega
      simp [h1, h2, this]
    · have e1 : a.1 = b.1 := by omega
      have h3 := cmpT_lt a.2.2.1 b.2.2.1
      rw [if_neg h1, if_neg h2, if_pos rfl, decide_eq_false h1, decide_eq_true e1, Bool.false_or, Bool.true_and]
      exact h3

theorem seqC_swo : SWO (ltOf seqC) where
  irrefl x := by rw [seqC_lt]; unfold seqLt; rw [ltT_irrefl]; simp
  trans x y z h1 h2 := by
    rw [seqC_lt] at *
    unfold seqLt at *
    simp only [Bool.or_eq_true, Bool.and_eq_true, decide_eq_true_eq] at *
    rcases h1 with h1 | ⟨h1, h3⟩
    · rcases h2 with h2 | ⟨h2, _⟩
      · left; omega
      · left; omega
    · rcases h2 with h2 | ⟨h2, h4⟩
      · left; omega
      · right; exact ⟨by omega, ltT_trans h3 h4⟩
  ntrans x y z h1 h2 := by
    rw [seqC_lt] at *
    unfold seqLt at *
    simp only [Bool.or_eq_false_iff, Bool.and_eq_false_iff, decide_eq_false_iff_not] at *
    refine ⟨by omega, ?_⟩
    by_cases h : x.1 = z.1
    · have e1 : x.1 = y.1 := by omega
      have e2 : y.1 = z.1 := by omega
      right
      exact ltT_ntrans (h1.2.resolve_left (by simpa using e1)) (h2.2.resolve_left (by simpa using e2))
    · left; exact h

/-! ### cmp.Compare -/

set_option maxRecDepth 100000 in
set_option maxHeartbeats 800000 in
theorem compareS_any (x y : ByteArray) (w : World) :
    Calls Tryz.prog 131 #[.string x, .string y] w fun e w' => e = .returned (.int .i64 (cmpT x y)) ∧ w' = w := by
  have e1 : (x.toList == x.toList) = true := by simp
  have e2 : (y.toList == y.toList) = true := by simp
  have HE : Hid (cmpT x y = if ltT x y then -1 else if ltT y x then 1 else 0) := rfl
  generalize cmpT x y = c at HE ⊢
  obtain ⟨a, ha⟩ : ∃ a, Op.bytesLess x.toList y.toList = a := ⟨_, rfl⟩
  obtain ⟨b, hb⟩ : ∃ b, Op.bytesLess y.toList x.toList = b := ⟨_, rfl⟩
  change Hid (c = if Op.bytesLess x.toList y.toList then -1 else if Op.bytesLess y.toList x.toList then 1 else 0) at HE
  rw [ha, hb] at HE
  go_enter Tryz.func131, Tryz.ntmps131
  cases a
  · have he : (x.toList == y.toList) = !b := by
      change sameT x y = !b
      cases b
      · rcases ltT_tri x y with h | h | h
        · rw [show ltT x y = false from ha] at h; cases h
        · rw [h]; rfl
        · rw [show ltT y x = false from hb] at h; cases h
      · rw [ltT_not_same2 (show ltT y x = true from hb)]; rfl
    cases b
    · go_wp2
      go_ret
      exact ⟨by rw [HE.out]; rfl, rfl⟩
    · go_wp2
      go_ret
      exact ⟨by rw [HE.out]; rfl, rfl⟩
  · go_wp2
    go_ret
    exact ⟨by rw [HE.out]; rfl, rfl⟩

end Go.Proofs.YtmfbffhbgelnnaaGreatDoor
