/-
  Contract of the program's function that appends digits to bytes of its own: the bytes and the digits behind them, and nothing below is written.
-/
import Derived.Test.YtfhbmfndjbdhcaaGreatDoorIClk
namespace Go.Proofs.YtfhbmfndjbdhcaaGreatDoor
open Go.RowKit
set_option linter.unusedVariables false

def bv (c : UInt8) : Value := .int .u8 (c.toNat : Int)
theorem bv_dg (n : Nat) : bv (Pl.dg n) = .int .u8 (48 + (n : Int) % 10) := by unfold bv; rw [Pl.dg_toNat]; congr 1
theorem info5 : (Tryz.prog.info? 5).map (fun i => (i.zero, i.size, i.bytes)) = some (some (.int .u8 0), 1, 1) := by kernel_rfl
theorem row_snoc {w : World} {B : Nat} {v u : Value} {bs : List UInt8} {c : UInt8} (hu : bv c = u) (h : w.ownsRow B 5 1 v (bs.length + 1) (bs.map bv ++ [u])) : w.ownsRow B 5 1 v (bs ++ [c]).length ((bs ++ [c]).map bv) := by
  subst hu; simpa using h
theorem below_grownB {B : Nat} {w w1 w2 : World} {v : Value} {o : Obj} {bs : List Value} {k : Nat} (hB : B ≤ w.heap.size) (hb : Below B w w1) (hown : w1.ownsRow B 5 1 v k bs) (hg : (w1.alloc o).grownBy w2 v.ownBlock) : Below B w w2 := by
  have hz := hb.size
  have h1 : Below B w (w1.alloc o) := hb.alloc (by omega) o
  exact h1.grown hg (by simp; omega) (fun k hk => (hown.lt k hk).1)

set_option maxHeartbeats 800000 in
theorem iapp2 (B : Nat) (v : Value) (bs : List UInt8) (n : Nat) (w : World) (hB : B ≤ w.heap.size) (hown : w.ownsRow B 5 1 v bs.length (bs.map bv)) (hl : bs.length ≤ 1000000) (hn : n ≤ 1000000000000) :
    Calls Tryz.prog 65 #[v, .int .i64 n, .int .i64 2] w fun e w' => ∃ v', e = .returned v' ∧ w'.ownsRow B 5 1 v' (bs ++ Pl.two n).length ((bs ++ Pl.two n).map bv) ∧ Below B w w' := by
  obtain ⟨i0, hi, hz0, hz1, hz2⟩ := info_parts info5
  go_enter Tryz.func65, Tryz.ntmps65
  go_wp2
  go_loop [7, 10] (fun s t => ∃ k : Nat, k ≤ 1 ∧ t = .int .i64 k ∧ s = .int .i64 (if k = 0 then 1 else 10)) (fun _ t => 1 - (intOf t).toNat)
  case atStart => exact ⟨0, by omega, rfl, rfl⟩
  case round =>
    obtain ⟨k, hk, rfl, rfl⟩ := hrel
    by_cases hlt : k < 1
    · obtain rfl : k = 0 := by omega
      go_wp2
      go_round
      case rel => exact ⟨1, by omega, rfl, rfl⟩
      case measure => simp [intOf]
    · have e0 : k = 1 := by omega
      subst e0
      go_wp2
      go_loopw [0, 7] (fun s t wr => ∃ j : Nat, j ≤ 2 ∧ t = .int .i64 (if j = 0 then 10 else if j = 1 then 1 else 0) ∧ wr.ownsRow B 5 1 s (bs ++ (Pl.two n).take j).length ((bs ++ (Pl.two n).take j).map bv) ∧ Below B w wr) (fun _ t _ => (intOf t).toNat)
      case atStart => exact ⟨0, by omega, rfl, by simpa using hown, Below.refl _ _⟩
      case round =>
        clear hown
        rename_i v1
        obtain ⟨j, hj, rfl, hown, hb⟩ := hrel
        have hz := hb.size
        obtain rfl | rfl | rfl : j = 0 ∨ j = 1 ∨ j = 2 := by omega
        · replace hown : wr.ownsRow B 5 1 _ (bs ++ (Pl.two n).take 0).length ((bs ++ (Pl.two n).take 0).map bv) := hown
          have hlen : (bs ++ (Pl.two n).take 0).length = bs.length + 0 := by simp [Pl.two]
          go_wp2_with (at_builtin; refine wpList_append_own _ rfl _ _ 22 rfl B 5 i0 (.int .u8 0) 1 1 Tryz.underlying22 hi hz0 hz1 hz2 rfl (by decide) _ _ _ rfl (hown.alloc _) ⟨wr.heap.size, 0, none⟩ 1 1 [.int .u8 (48 + (n : Int) / 10 % 10)] rfl rfl ?c1 ?c2 ?c3 ?c4 ?c5 ?_)
          case c1 =>
            intro j u hj
            match j, hj with
            | 0, hj => simp at hj; subst hj; simp [Addr.add]
          case c2 => intro u hu; simp at hu; subst hu; rfl
          case c3 => unfold maxLen; omega
          case c4 => omega
          case c5 => simp; omega
          intro v' w1 hown' hgrow _
          have R : w1.ownsRow B 5 1 v' (bs ++ (Pl.two n).take 1).length ((bs ++ (Pl.two n).take 1).map bv) := by simpa [Pl.two, bv_dg] using hown'
          have RB := below_grownB hB hb hown hgrow
          clear hown' hgrow hown hlen
          go_wp2
          go_roundw
          case rel => exact ⟨1, by omega, rfl, R, RB⟩
          case measure => simp [intOf]
        · replace hown : wr.ownsRow B 5 1 _ (bs ++ (Pl.two n).take 1).length ((bs ++ (Pl.two n).take 1).map bv) := hown
          have hlen : (bs ++ (Pl.two n).take 1).length = bs.length + 1 := by simp [Pl.two]
          go_wp2_with (at_builtin; refine wpList_append_own _ rfl _ _ 22 rfl B 5 i0 (.int .u8 0) 1 1 Tryz.underlying22 hi hz0 hz1 hz2 rfl (by decide) _ _ _ rfl (hown.alloc _) ⟨wr.heap.size, 0, none⟩ 1 1 [.int .u8 (48 + (n : Int) % 10)] rfl rfl ?c1 ?c2 ?c3 ?c4 ?c5 ?_)
          case c1 =>
            intro j u hj
            match j, hj with
            | 0, hj => simp at hj; subst hj; simp [Addr.add]
          case c2 => intro u hu; simp at hu; subst hu; rfl
          case c3 => unfold maxLen; omega
          case c4 => omega
          case c5 => simp; omega
          intro v' w1 hown' hgrow _
          have R : w1.ownsRow B 5 1 v' (bs ++ (Pl.two n).take 2).length ((bs ++ (Pl.two n).take 2).map bv) := by simpa [Pl.two, bv_dg] using hown'
          have RB := below_grownB hB hb hown hgrow
          clear hown' hgrow hown hlen
          go_wp2
          go_roundw
          case rel => exact ⟨2, by omega, rfl, R, RB⟩
          case measure => simp [intOf]
        · go_wp2
          go_ret
          exact ⟨_, rfl, by simpa [Pl.two] using hown, hb⟩

set_option maxHeartbeats 800000 in
theorem iapp3 (B : Nat) (v : Value) (bs : List UInt8) (n : Nat) (w : World) (hB : B ≤ w.heap.size) (hown : w.ownsRow B 5 1 v bs.length (bs.map bv)) (hl : bs.length ≤ 1000000) (hn : n ≤ 1000000000000) :
    Calls Tryz.prog 65 #[v, .int .i64 n, .int .i64 3] w fun e w' => ∃ v', e = .returned v' ∧ w'.ownsRow B 5 1 v' (bs ++ Pl.three n).length ((bs ++ Pl.three n).map bv) ∧ Below B w w' := by
  obtain ⟨i0, hi, hz0, hz1, hz2⟩ := info_parts info5
  go_enter Tryz.func65, Tryz.ntmps65
  go_wp2
  go_loop [7, 10] (fun s t => ∃ k : Nat, k ≤ 2 ∧ t = .int .i64 k ∧ s = .int .i64 (if k = 0 then 1 else if k = 1 then 10 else 100)) (fun _ t => 2 - (intOf t).toNat)
  case atStart => exact ⟨0, by omega, rfl, rfl⟩
  case round =>
    obtain ⟨k, hk, rfl, rfl⟩ := hrel
    by_cases hlt : k < 2
    · obtain rfl | rfl : k = 0 ∨ k = 1 := by omega
      · go_wp2
        go_round
        case rel => exact ⟨1, by omega, rfl, rfl⟩
        case measure => simp [intOf]
      · go_wp2
        go_round
        case rel => exact ⟨2, by omega, rfl, rfl⟩
        case measure => simp [intOf]
    · have e0 : k = 2 := by omega
      subst e0
      go_wp2
      go_loopw [0, 7] (fun s t wr => ∃ j : Nat, j ≤ 3 ∧ t = .int .i64 (if j = 0 then 100 else if j = 1 then 10 else if j = 2 then 1 else 0) ∧ wr.ownsRow B 5 1 s (bs ++ (Pl.three n).take j).length ((bs ++ (Pl.three n).take j).map bv) ∧ Below B w wr) (fun _ t _ => (intOf t).toNat)
      case atStart => exact ⟨0, by omega, rfl, by simpa using hown, Below.refl _ _⟩
      case round =>
        clear hown
        rename_i v1
        obtain ⟨j, hj, rfl, hown, hb⟩ := hrel
        have hz := hb.size
        obtain rfl | rfl | rfl | rfl : j = 0 ∨ j = 1 ∨ j = 2 ∨ j = 3 := by omega
        · replace hown : wr.ownsRow B 5 1 _ (bs ++ (Pl.three n).take 0).length ((bs ++ (Pl.three n).take 0).map bv) := hown
          have hlen : (bs ++ (Pl.three n).take 0).length = bs.length + 0 := by simp [Pl.three]
          go_wp2_with (at_builtin; refine wpList_append_own _ rfl _ _ 22 rfl B 5 i0 (.int .u8 0) 1 1 Tryz.underlying22 hi hz0 hz1 hz2 rfl (by decide) _ _ _ rfl (hown.alloc _) ⟨wr.heap.size, 0, none⟩ 1 1 [.int .u8 (48 + (n : Int) / 100 % 10)] rfl rfl ?c1 ?c2 ?c3 ?c4 ?c5 ?_)
          case c1 =>
            intro j u hj
            match j, hj with
            | 0, hj => simp at hj; subst hj; simp [Addr.add]
          case c2 => intro u hu; simp at hu; subst hu; rfl
          case c3 => unfold maxLen; omega
          case c4 => omega
          case c5 => simp; omega
          intro v' w1 hown' hgrow _
          have R : w1.ownsRow B 5 1 v' (bs ++ (Pl.three n).take 1).length ((bs ++ (Pl.three n).take 1).map bv) := by simpa [Pl.three, bv_dg] using hown'
          have RB := below_grownB hB hb hown hgrow
          clear hown' hgrow hown hlen
          go_wp2
          go_roundw
          case rel => exact ⟨1, by omega, rfl, R, RB⟩
          case measure => simp [intOf]
        · replace hown : wr.ownsRow B 5 1 _ (bs ++ (Pl.three n).take 1).length ((bs ++ (Pl.three n).take 1).map bv) := hown
          have hlen : (bs ++ (Pl.three n).take 1).length = bs.length + 1 := by simp [Pl.three]
          go_wp2_with (at_builtin; refine wpList_append_own _ rfl _ _ 22 rfl B 5 i0 (.int .u8 0) 1 1 Tryz.underlying22 hi hz0 hz1 hz2 rfl (by decide) _ _ _ rfl (hown.alloc _) ⟨wr.heap.size, 0, none⟩ 1 1 [.int .u8 (48 + (n : Int) / 10 % 10)] rfl rfl ?c1 ?c2 ?c3 ?c4 ?c5 ?_)
          case c1 =>
            intro j u hj
            match j, hj with
            | 0, hj => simp at hj; subst hj; simp [Addr.add]
          case c2 => intro u hu; simp at hu; subst hu; rfl
          case c3 => unfold maxLen; omega
          case c4 => omega
          case c5 => simp; omega
          intro v' w1 hown' hgrow _
          have R : w1.ownsRow B 5 1 v' (bs ++ (Pl.three n).take 2).length ((bs ++ (Pl.three n).take 2).map bv) := by simpa [Pl.three, bv_dg] using hown'
          have RB := below_grownB hB hb hown hgrow
          clear hown' hgrow hown hlen
          go_wp2
          go_roundw
          case rel => exact ⟨2, by omega, rfl, R, RB⟩
          case measure => simp [intOf]
        · replace hown : wr.ownsRow B 5 1 _ (bs ++ (Pl.three n).take 2).length ((bs ++ (Pl.three n).take 2).map bv) := hown
          have hlen : (bs ++ (Pl.three n).take 2).length = bs.length + 2 := by simp [Pl.three]
          go_wp2_with (at_builtin; refine wpList_append_own _ rfl _ _ 22 rfl B 5 i0 (.int .u8 0) 1 1 Tryz.underlying22 hi hz0 hz1 hz2 rfl (by decide) _ _ _ rfl (hown.alloc _) ⟨wr.heap.size, 0, none⟩ 1 1 [.int .u8 (48 + (n : Int) % 10)] rfl rfl ?c1 ?c2 ?c3 ?c4 ?c5 ?_)
          case c1 =>
            intro j u hj
            match j, hj with
            | 0, hj => simp at hj; subst hj; simp [Addr.add]
          case c2 => intro u hu; simp at hu; subst hu; rfl
          case c3 => unfold maxLen; omega
          case c4 => omega
          case c5 => simp; omega
          intro v' w1 hown' hgrow _
          have R : w1.ownsRow B 5 1 v' (bs ++ (Pl.three n).take 3).length ((bs ++ (Pl.three n).take 3).map bv) := by simpa [Pl.three, bv_dg] using hown'
          have RB := below_grownB hB hb hown hgrow
          clear hown' hgrow hown hlen
          go_wp2
          go_roundw
          case rel => exact ⟨3, by omega, rfl, R, RB⟩
          case measure => simp [intOf]
        · go_wp2
          go_ret
          exact ⟨_, rfl, by simpa [Pl.three] using hown, hb⟩

end Go.Proofs.YtfhbmfndjbdhcaaGreatDoor
