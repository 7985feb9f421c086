/-
  Contract of the program's TimeText where the text is not empty: what it answers, and that nothing that was there is written.
  Contract of the program's TimeText, for every rate and every frame.
-/
import Derived.Test.YtfhbmfndjbdhcaaGreatDoorITime
namespace Go.Proofs.YtfhbmfndjbdhcaaGreatDoor
open Go.RowKit Go.Joins
set_option linter.unusedVariables false

def restL (c r1 r2 r3 : Int) : Nat → Int
  | 0 => c
  | 1 => r1
  | 2 => r2
  | 3 => r3
  | _ => 0
def preL (b c r1 r2 r3 : Int) (m : UInt8) : Nat → List UInt8
  | 0 => []
  | 1 => Pl.two (c / (3600 * b)).toNat
  | 2 => Pl.two (c / (3600 * b)).toNat ++ [58] ++ Pl.two (r1 / (60 * b)).toNat
  | 3 => Pl.two (c / (3600 * b)).toNat ++ [58] ++ Pl.two (r1 / (60 * b)).toNat ++ [58] ++ Pl.two (r2 / b).toNat
  | _ => Pl.two (c / (3600 * b)).toNat ++ [58] ++ Pl.two (r1 / (60 * b)).toNat ++ [58] ++ Pl.two (r2 / b).toNat ++ [m] ++ Pl.ff b r3

theorem wrap_in (x : Int) (h0 : 0 ≤ x) (h1 : x ≤ 1000000000000) : IntKind.i64.wrap x = x := by
  rw [IntKind.wrap_i64]; omega
theorem ownsRow_belowB {w w1 : World} {B n : Nat} {v : Value} {xs : List Value} (h : w.ownsRow B 5 1 v n xs) (hb : Below w.heap.size w w1) : w1.ownsRow B 5 1 v n xs := by
  have hg : w.grownBy w1 none := ⟨hb.os, hb.tape, hb.output, hb.size, fun k hk _ => hb.block k hk⟩
  refine h.kept hg ?_
  cases v.ownBlock with
  | none => exact .inl rfl
  | some k => exact .inr (by simp)
theorem ifd_val (b i v : Int) (hv : fdig b i = v) (w : World) :
    Calls Tryz.prog 73 #[.int .i64 b, .int .i64 i] w fun e w' => e = .returned (.int .i64 v) ∧ w' = w := by subst hv; exact ifd_any b i w
theorem iappI (B : Nat) (v : Value) (bs : List UInt8) (x : Int) (w : World) (hB : B ≤ w.heap.size) (hown : w.ownsRow B 5 1 v bs.length (bs.map bv)) (hl : bs.length ≤ 1000000) (h0 : 0 ≤ x) (h1 : x ≤ 1000000000000) :
    Calls Tryz.prog 65 #[v, .int .i64 x, .int .i64 2] w fun e w' => ∃ v', e = .returned v' ∧ w'.ownsRow B 5 1 v' (bs ++ Pl.two x.toNat).length ((bs ++ Pl.two x.toNat).map bv) ∧ Below B w w' := by
  obtain ⟨n, rfl⟩ := Int.eq_ofNat_of_zero_le h0
  exact iapp2 B v bs n w hB hown hl (by omega)
theorem iappF (B : Nat) (v : Value) (bs : List UInt8) (b x : Int) (w : World) (hB : B ≤ w.heap.size) (hown : w.ownsRow B 5 1 v bs.length (bs.map bv)) (hl : bs.length ≤ 1000000) (h0 : 0 ≤ x) (h1 : x ≤ 1000000000000) :
    Calls Tryz.prog 65 #[v, .int .i64 x, .int .i64 (fdig b 3)] w fun e w' => ∃ v', e = .returned v' ∧ w'.ownsRow B 5 1 v' (bs ++ Pl.ff b x).length ((bs ++ Pl.ff b x).map bv) ∧ Below B w w' := by
  obtain ⟨n, rfl⟩ := Int.eq_ofNat_of_zero_le h0
  by_cases hb : 100 < b
  · have e1 : fdig b 3 = 3 := by simp [fdig, hb]
    have e2 : Pl.ff b (n : Int) = Pl.three n := by simp [Pl.ff, hb]
    rw [e1, e2]; exact iapp3 B v bs n w hB hown hl (by omega)
  · have e1 : fdig b 3 = 2 := by simp [fdig, hb]
    have e2 : Pl.ff b (n : Int) = Pl.two n := by simp [Pl.ff, hb]
    rw [e1, e2]; exact iapp2 B v bs n w hB hown hl (by omega)
theorem imark_val (n d : Int) (dr : Bool) (i M : Int) (hM : ((fmark dr i).toNat : Int) = M) (w : World) :
    Calls Tryz.prog 72 #[.agg #[.int .i64 n, .int .i64 d, .bool dr], .int .i64 i] w fun e w' => e = .returned (.int .i32 M) ∧ Below w.heap.size w w' := by subst hM; exact imark_any n d dr i w

set_option maxRecDepth 100000 in
set_option maxHeartbeats 1600000 in
theorem itext_core (n d : Int) (dr : Bool) (f : Int) (w : World) (hr : Pl.rok n d dr = true) (hf : Pl.isf f = true) (hh : ¬ 99 < Pl.clk n dr f / Pl.base n d dr / 3600) :
    Calls Tryz.prog 41 #[.agg #[.int .i64 n, .int .i64 d, .bool dr], .int .i64 f] w fun e w' => e = .returned (.string ⟨(preL (Pl.base n d dr) (Pl.clk n dr f) (Pl.clk n dr f % (3600 * Pl.base n d dr)) (Pl.clk n dr f % (3600 * Pl.base n d dr) % (60 * Pl.base n d dr)) (Pl.clk n dr f % (3600 * Pl.base n d dr) % (60 * Pl.base n d dr) % Pl.base n d dr) (Pl.mark dr) 4).toArray⟩) ∧ Below w.heap.size w w' := by
  obtain ⟨i0, hi, hz0, hz1, hz2⟩ := info_parts info5
  obtain ⟨b1, b2⟩ := Pl.base_bd hr
  obtain ⟨f1, f2⟩ := Pl.isf_bd hf
  obtain ⟨k1, k2⟩ := clk_bd (n := n) (dr := dr) f1 f2
  have cb := hide (base_val 67 ibase_any n d dr _ rfl)
  have cf := hide (frame_val 68 iframe_any f true hf)
  have cc := hide (clk_val n d dr f hr hf _ rfl)
  have hq := (Pl.fields (Pl.clk n dr f) (Pl.base n d dr) b1).1
  clear hr hf
  generalize Pl.base n d dr = b at *
  generalize Pl.clk n dr f = c at *
  rw [← hq] at hh
  clear hq
  have hz : (b == 0) = false := by simp; omega
  obtain ⟨M, hM, hM0, hM1⟩ : ∃ M : Int, Hid (((Pl.mark dr).toNat : Int) = M) ∧ 58 ≤ M ∧ M ≤ 59 := ⟨_, hide rfl, by cases dr <;> simp [Pl.mark], by cases dr <;> simp [Pl.mark]⟩
  have hMv : Hid (bv (Pl.mark dr) = .int .u8 M) := hide (by rw [← unhide hM]; rfl)
  have q1 : 0 ≤ c / (3600 * b) := Int.ediv_nonneg k1 (by omega)
  have p1 : 0 ≤ c % (3600 * b) := Int.emod_nonneg _ (by omega)
  have p2 : c % (3600 * b) ≤ c := by rw [Int.emod_def]; have := Int.mul_nonneg (show 0 ≤ 3600 * b by omega) q1; omega
  generalize hr1 : c % (3600 * b) = r1 at *
  have hr1' := hide hr1
  have q3 : 0 ≤ r1 / (60 * b) := Int.ediv_nonneg p1 (by omega)
  have q4 : r1 / (60 * b) ≤ c := by have := Int.ediv_le_self (60 * b) p1; omega
  have p3 : 0 ≤ r1 % (60 * b) := Int.emod_nonneg _ (by omega)
  have p4 : r1 % (60 * b) < 60 * b := Int.emod_lt_of_pos _ (by omega)
  generalize hr2 : r1 % (60 * b) = r2 at *
  have hr2' := hide hr2
  have q5 : 0 ≤ r2 / b := Int.ediv_nonneg p3 (by omega)
  have q6 : r2 / b ≤ 60 * b := by have := Int.ediv_le_self b p3; omega
  have q7 : 0 ≤ r2 % b := Int.emod_nonneg _ (by omega)
  have q8 : r2 % b < b := Int.emod_lt_of_pos _ (by omega)
  generalize hr3 : r2 % b = r3 at *
  have hr3' := hide hr3
  clear hr1 hr2 hr3
  have ix0 : ∀ w, (Instr.index 84 (.agg #[.int .i64 (3600 * b), .int .i64 (60 * b), .int .i64 b, .int .i64 1]) (.int .i64 0)).run Tryz.prog w = .ok (.int .i64 (3600 * b)) w := fun _ => by kernel_rfl
  have ix1 : ∀ w, (Instr.index 84 (.agg #[.int .i64 (3600 * b), .int .i64 (60 * b), .int .i64 b, .int .i64 1]) (.int .i64 1)).run Tryz.prog w = .ok (.int .i64 (60 * b)) w := fun _ => by kernel_rfl
  have ix2 : ∀ w, (Instr.index 84 (.agg #[.int .i64 (3600 * b), .int .i64 (60 * b), .int .i64 b, .int .i64 1]) (.int .i64 2)).run Tryz.prog w = .ok (.int .i64 b) w := fun _ => by kernel_rfl
  have ix3 : ∀ w, (Instr.index 84 (.agg #[.int .i64 (3600 * b), .int .i64 (60 * b), .int .i64 b, .int .i64 1]) (.int .i64 3)).run Tryz.prog w = .ok (.int .i64 1) w := fun _ => by kernel_rfl
  go_enter Tryz.func41, Tryz.ntmps41
  go_wp2_with fail
  refine (unhide cb _).mono ?_
  rintro e w1 ⟨rfl, hb⟩
  go_wp2_with fail
  refine (unhide cf _).mono ?_
  rintro e w2 ⟨rfl, rfl⟩
  go_wp2_with fail
  refine (idiv_any b _ (by omega) (by omega)).mono ?_
  rintro e w3 ⟨rfl, hb3⟩
  have k1 := below_box hb
  have k3 := k1.trans (hb3.mono k1.size)
  have hc := (bcell hb).1
  have hc3 := (bcell hb3).1
  have hs2 : w.heap.size < w2.heap.size := by have := hb.size; simp at this; omega
  have hs3 : w.heap.size < w3.heap.size := by have := hb3.size; omega
  go_wp2_with fail
  refine (unhide cc _).mono ?_
  rintro e w4 ⟨rfl, hb4⟩
  have hc4 := (bcell hb4).1
  have k4 : Below w.heap.size w w4 := (k3.alloc k3.size _).trans (hb4.mono (by have := k3.size; simp; omega))
  have hs4 : w.heap.size < w4.heap.size := by have := hb4.size; simp at this; omega
  have hs34 : w3.heap.size < w4.heap.size := by have := hb4.size; simp at this; omega
  go_wp2_with fail
  refine (itb_any b _).mono ?_
  rintro e w5 ⟨rfl, rfl⟩
  obtain ⟨N, hN0, hN1⟩ : ∃ N : Nat, Hid (tbytes b = (N : Int)) ∧ N ≤ 12 := by
    by_cases h : 100 < b
    · exact ⟨12, hide (by simp [tbytes, h]), by omega⟩
    · exact ⟨11, hide (by simp [tbytes, h]), by omega⟩
  go_wp2_with (refine wpList_make_own _ rfl _ _ 22 rfl w5.heap.size 5 i0 (.int .u8 0) 1 Tryz.underlying22 hi hz0 hz1 .i64 .i64 _ N rfl rfl (unhide hN0) ?c1 ?c2 ?c3 ?_)
  case c1 => rw [hz2]; omega
  case c2 => unfold maxLen; omega
  case c3 => exact Nat.le_refl _
  intro w6 hown6 hg6
  have hb6 : Below w5.heap.size w5 w6 := (Below.refl _ _).grown hg6 (Nat.le_refl _) (fun k hk => by cases hk)
  have hc6 := (bcell hb6).1
  have hr0 : w5.cell? ⟨w.heap.size, 0, none⟩ = some (.int .i64 n) := by rw [hc4 _ _ (by simp; omega), World.cell?_alloc_past _ _ _ hs3, hc3 _ _ hs2, hc _ _ (by simp)]; simp
  have hr1 : w5.cell? ⟨w.heap.size, 1, none⟩ = some (.int .i64 d) := by rw [hc4 _ _ (by simp; omega), World.cell?_alloc_past _ _ _ hs3, hc3 _ _ hs2, hc _ _ (by simp)]; simp
  have hr2 : w5.cell? ⟨w.heap.size, 2, none⟩ = some (.bool dr) := by rw [hc4 _ _ (by simp; omega), World.cell?_alloc_past _ _ _ hs3, hc3 _ _ hs2, hc _ _ (by simp)]; simp
  go_wp2_with fail
  clear hc hc3 hc4 hc6
  go_loopw [7, 8, 34] (fun s t i wr => ∃ k : Nat, k ≤ 4 ∧ i = .int .i64 k ∧ s = .int .i64 (restL c r1 r2 r3 k) ∧ wr.ownsRow w5.heap.size 5 1 t (preL b c r1 r2 r3 (Pl.mark dr) k).length ((preL b c r1 r2 r3 (Pl.mark dr) k).map bv) ∧ Below w5.heap.size w5 wr) (fun _ _ i _ => 4 - (intOf i).toNat)
  case atStart => exact ⟨0, by omega, rfl, rfl, hown6, hb6⟩
  case round =>
    clear hown6 hb6 hg6
    obtain ⟨k, hk, rfl, rfl, hown, hnx⟩ := hrel
    have hn0 := (hnx.cell (p := ⟨w.heap.size, 0, none⟩) hs4).trans hr0
    have hn1 := (hnx.cell (p := ⟨w.heap.size, 1, none⟩) hs4).trans hr1
    have hn2 := (hnx.cell (p := ⟨w.heap.size, 2, none⟩) hs4).trans hr2
    clear hr0 hr1 hr2
    have hwz := hnx.size
    obtain rfl | rfl | rfl | rfl | rfl : k = 0 ∨ k = 1 ∨ k = 2 ∨ k = 3 ∨ k = 4 := by omega
    · replace hown : wr.ownsRow w5.heap.size 5 1 u8 ([] : List UInt8).length (([] : List UInt8).map bv) := hown
      rw [show restL c r1 r2 r3 0 = c from rfl, show ((0 : Nat) : Int) = 0 from rfl]
      have cd := hide (ifd_val b 0 2 (by simp [fdig]))
      have ca := hide (iappI w5.heap.size u8 [] (c / (3600 * b)) wr.drew hwz hown.drew (by simp) q1 (by omega))
      clear hown
      go_wp2_with fail
      go_region_with (first | (go_at_call 73; refine (unhide cd _).mono ?_; rintro e w7 ⟨rfl, rfl⟩) | (go_at_call 65; refine (unhide ca).mono ?_; rintro e w7 ⟨v7, rfl, hown7, hb7⟩))
      all_goals
        have hnx7 : Below w5.heap.size w5 w7 := hnx.drew.trans hb7
        clear ca cd
        go_wp2
        go_roundw
        case rel => exact ⟨1, by omega, rfl, by rw [unhide hr1']; rfl, hown7, hnx7⟩
        case measure => simp [intOf]
    · have hlen : (preL b c r1 r2 r3 (Pl.mark dr) 1).length ≤ 20 := by simp [preL, Pl.two]
      rw [show restL c r1 r2 r3 1 = r1 from rfl, show ((1 : Nat) : Int) = 1 from rfl]
      have cm := hide (imark_val n d dr 1 58 (by simp [fmark]))
      generalize hP : preL b c r1 r2 r3 (Pl.mark dr) 1 = P at hown hlen
      have hP' := hide hP
      clear hP
      have hi0 : (0 : Int) < 1 := by omega
      go_wp2_with fail
      refine (unhide cm _).mono ?_
      rintro e w7 ⟨rfl, hb7⟩
      have hown7 := ownsRow_belowB hown hb7
      have hnx7 : Below w5.heap.size w5 w7 := hnx.trans (hb7.mono hwz)
      have hwz7 := hnx7.size
      clear hown
      go_wp2_with (at_builtin; refine wpList_append_own _ rfl _ _ 22 rfl w5.heap.size 5 i0 (.int .u8 0) 1 1 Tryz.underlying22 hi hz0 hz1 hz2 rfl (by decide) _ _ _ rfl (hown7.alloc _) ⟨w7.heap.size, 0, none⟩ 1 1 [.int .u8 58] rfl rfl ?c1 ?c2 ?c3 ?c4 ?c5 ?_)
      case c1 =>
        intro j u hj
        match j, hj with
        | 0, hj => simp at hj; subst hj; simp [Addr.add]
      case c2 => intro u hu; simp at hu; subst hu; rfl
      case c3 => unfold maxLen; omega
      case c4 => omega
      case c5 => simp; omega
      intro v8 w8 hown8 hgrow8 _
      have R8 : w8.ownsRow w5.heap.size 5 1 v8 (P ++ [58]).length ((P ++ [58]).map bv) := row_snoc rfl hown8
      have hnx8 : Below w5.heap.size w5 w8 := below_grownB (Nat.le_refl _) hnx7 hown7 hgrow8
      have hwz8 := hnx8.size
      clear hown8 hgrow8 hown7
      have cd := hide (ifd_val b 1 2 (by simp [fdig]))
      have ca := hide (iappI w5.heap.size v8 (P ++ [58]) (r1 / (60 * b)) w8.drew hwz8 R8.drew (by simp; omega) q3 (by omega))
      clear R8
      go_wp2_with fail
      go_region_with (first | (go_at_call 73; refine (unhide cd _).mono ?_; rintro e w9 ⟨rfl, rfl⟩) | (go_at_call 65; refine (unhide ca).mono ?_; rintro e w9 ⟨v9, rfl, hown9, hb9⟩))
      all_goals
        have hnx9 : Below w5.heap.size w5 w9 := hnx8.drew.trans hb9
        clear ca cd cm
        go_wp2
        go_roundw
        case rel => exact ⟨2, by omega, rfl, by rw [unhide hr2']; rfl, by rw [← unhide hP'] at hown9; exact hown9, hnx9⟩
        case measure => simp [intOf]
    · have hlen : (preL b c r1 r2 r3 (Pl.mark dr) 2).length ≤ 20 := by simp [preL, Pl.two]
      rw [show restL c r1 r2 r3 2 = r2 from rfl, show ((2 : Nat) : Int) = 2 from rfl]
      have cm := hide (imark_val n d dr 2 58 (by simp [fmark]))
      generalize hP : preL b c r1 r2 r3 (Pl.mark dr) 2 = P at hown hlen
      have hP' := hide hP
      clear hP
      have hi0 : (0 : Int) < 2 := by omega
      go_wp2_with fail
      refine (unhide cm _).mono ?_
      rintro e w7 ⟨rfl, hb7⟩
      have hown7 := ownsRow_belowB hown hb7
      have hnx7 : Below w5.heap.size w5 w7 := hnx.trans (hb7.mono hwz)
      have hwz7 := hnx7.size
      clear hown
      go_wp2_with (at_builtin; refine wpList_append_own _ rfl _ _ 22 rfl w5.heap.size 5 i0 (.int .u8 0) 1 1 Tryz.underlying22 hi hz0 hz1 hz2 rfl (by decide) _ _ _ rfl (hown7.alloc _) ⟨w7.heap.size, 0, none⟩ 1 1 [.int .u8 58] rfl rfl ?c1 ?c2 ?c3 ?c4 ?c5 ?_)
      case c1 =>
        intro j u hj
        match j, hj with
        | 0, hj => simp at hj; subst hj; simp [Addr.add]
      case c2 => intro u hu; simp at hu; subst hu; rfl
      case c3 => unfold maxLen; omega
      case c4 => omega
      case c5 => simp; omega
      intro v8 w8 hown8 hgrow8 _
      have R8 : w8.ownsRow w5.heap.size 5 1 v8 (P ++ [58]).length ((P ++ [58]).map bv) := row_snoc rfl hown8
      have hnx8 : Below w5.heap.size w5 w8 := below_grownB (Nat.le_refl _) hnx7 hown7 hgrow8
      have hwz8 := hnx8.size
      clear hown8 hgrow8 hown7
      have cd := hide (ifd_val b 2 2 (by simp [fdig]))
      have ca := hide (iappI w5.heap.size v8 (P ++ [58]) (r2 / b) w8.drew hwz8 R8.drew (by simp; omega) q5 (by omega))
      clear R8
      go_wp2_with fail
      go_region_with (first | (go_at_call 73; refine (unhide cd _).mono ?_; rintro e w9 ⟨rfl, rfl⟩) | (go_at_call 65; refine (unhide ca).mono ?_; rintro e w9 ⟨v9, rfl, hown9, hb9⟩))
      all_goals
        have hnx9 : Below w5.heap.size w5 w9 := hnx8.drew.trans hb9
        clear ca cd cm
        go_wp2
        go_roundw
        case rel => exact ⟨3, by omega, rfl, by rw [unhide hr3']; rfl, by rw [← unhide hP'] at hown9; exact hown9, hnx9⟩
        case measure => simp [intOf]
    · have hlen : (preL b c r1 r2 r3 (Pl.mark dr) 3).length ≤ 20 := by simp [preL, Pl.two]
      rw [show restL c r1 r2 r3 3 = r3 from rfl, show ((3 : Nat) : Int) = 3 from rfl]
      have hwr : IntKind.i64.wrap r3 = r3 := wrap_in r3 q7 (by omega)
      have cm := hide (imark_val n d dr 3 M (by rw [← unhide hM]; simp [fmark, Pl.mark]))
      generalize hP : preL b c r1 r2 r3 (Pl.mark dr) 3 = P at hown hlen
      have hP' := hide hP
      clear hP
      have hi0 : (0 : Int) < 3 := by omega
      go_wp2_with fail
      refine (unhide cm _).mono ?_
      rintro e w7 ⟨rfl, hb7⟩
      have hown7 := ownsRow_belowB hown hb7
      have hnx7 : Below w5.heap.size w5 w7 := hnx.trans (hb7.mono hwz)
      have hwz7 := hnx7.size
      clear hown
      go_wp2_with (at_builtin; refine wpList_append_own _ rfl _ _ 22 rfl w5.heap.size 5 i0 (.int .u8 0) 1 1 Tryz.underlying22 hi hz0 hz1 hz2 rfl (by decide) _ _ _ rfl (hown7.alloc _) ⟨w7.heap.size, 0, none⟩ 1 1 [.int .u8 M] rfl rfl ?c1 ?c2 ?c3 ?c4 ?c5 ?_)
      case c1 =>
        intro j u hj
        match j, hj with
        | 0, hj => simp at hj; subst hj; simp [Addr.add]
      case c2 => intro u hu; simp at hu; subst hu; rfl
      case c3 => unfold maxLen; omega
      case c4 => omega
      case c5 => simp; omega
      intro v8 w8 hown8 hgrow8 _
      have R8 : w8.ownsRow w5.heap.size 5 1 v8 (P ++ [(Pl.mark dr)]).length ((P ++ [(Pl.mark dr)]).map bv) := row_snoc (unhide hMv) hown8
      have hnx8 : Below w5.heap.size w5 w8 := below_grownB (Nat.le_refl _) hnx7 hown7 hgrow8
      have hwz8 := hnx8.size
      clear hown8 hgrow8 hown7
      have cd := hide (ifd_val b 3 _ rfl)
      have ca := hide (iappF w5.heap.size v8 (P ++ [(Pl.mark dr)]) b r3 w8.drew hwz8 R8.drew (by simp; omega) q7 (by omega))
      clear R8
      go_wp2_with fail
      go_region_with (first | (go_at_call 73; refine (unhide cd _).mono ?_; rintro e w9 ⟨rfl, rfl⟩) | (go_at_call 65; refine (unhide ca).mono ?_; rintro e w9 ⟨v9, rfl, hown9, hb9⟩))
      all_goals
        have hnx9 : Below w5.heap.size w5 w9 := hnx8.drew.trans hb9
        clear ca cd cm
        go_wp2
        go_roundw
        case rel => exact ⟨4, by omega, rfl, by simp [restL], by rw [← unhide hP'] at hown9; exact hown9, hnx9⟩
        case measure => simp [intOf]
    · have hne : 0 < (preL b c r1 r2 r3 (Pl.mark dr) 4).length := by simp [preL, Pl.two]
      obtain ⟨g, cp, hv⟩ := ownsRow_form hown hne
      have hcells := hown.cells (g := g) (by rw [hv]; rfl)
      have hcv : Hid (∀ w', w' = wr → (convert 22 9 u8).run Tryz.prog w' = .ok (.string ⟨(preL b c r1 r2 r3 (Pl.mark dr) 4).toArray⟩) w') := by
        rintro w' rfl
        rw [hv]
        exact run_convert_bytes_back (P := Tryz.prog) w' 22 9 5 ⟨g, 0, none⟩ cp _ Tryz.underlying22 Tryz.underlying5 Tryz.underlying9 (fun j hj => hcells j _ (by simp [bv, hj]))
      have kc := unhide hcv wr rfl
      clear hcells hv hown
      go_wp2
      go_ret
      exact ⟨rfl, k4.trans (hnx.mono (by omega))⟩

end Go.Proofs.YtfhbmfndjbdhcaaGreatDoor

namespace Go.Proofs.YtfhbmfndjbdhcaaGreatDoor
open Go.RowKit Go.Joins
set_option linter.unusedVariables false

theorem itext_any (n d : Int) (dr : Bool) (f : Int) (w : World) :
    Calls Tryz.prog 41 #[.agg #[.int .i64 n, .int .i64 d, .bool dr], .int .i64 f] w fun e w' => e = .returned (.string ⟨(Pl.tt n d dr f).toArray⟩) ∧ Below w.heap.size w w' := by
  cases hr : Pl.rok n d dr
  · rw [tt_no1 hr]; exact itext_r n d dr f w hr
  cases hf : Pl.isf f
  · rw [tt_no2 hf]; exact itext_f n d dr f w hr hf
  rw [tt_yes hr hf]
  by_cases hh : 99 < Pl.clk n dr f / Pl.base n d dr / 3600
  · rw [if_pos hh]; exact itext_late n d dr f w hr hf hh
  · rw [if_neg hh]
    have h := itext_core n d dr f w hr hf hh
    obtain ⟨e1, e2, e3, e4⟩ := Pl.fields (Pl.clk n dr f) (Pl.base n d dr) (Pl.base_bd hr).1
    have e : preL (Pl.base n d dr) (Pl.clk n dr f) (Pl.clk n dr f % (3600 * Pl.base n d dr)) (Pl.clk n dr f % (3600 * Pl.base n d dr) % (60 * Pl.base n d dr)) (Pl.clk n dr f % (3600 * Pl.base n d dr) % (60 * Pl.base n d dr) % Pl.base n d dr) (Pl.mark dr) 4 = Pl.txt dr (Pl.base n d dr) (Pl.clk n dr f) := by
      simp only [preL, e1, e2, e3, e4, Pl.txt, List.append_assoc, List.cons_append, List.nil_append]
    rw [e] at h
    exact h


end Go.Proofs.YtfhbmfndjbdhcaaGreatDoor
