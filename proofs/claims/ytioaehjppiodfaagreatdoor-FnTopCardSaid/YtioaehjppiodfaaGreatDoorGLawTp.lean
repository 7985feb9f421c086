/-
  For every list of bytes the law of the bench as a whole answers true, where the library's variables lie as its text lays them.
-/
import Derived.Test.YtioaehjppiodfaaGreatDoorGTpP
namespace Go.Proofs.YtioaehjppiodfaaGreatDoor
open Go.RowKit
set_option linter.unusedVariables false
set_option linter.unusedSimpArgs false

theorem lit_own (w : World) (x : Int) {B : Nat} (hB : B ≤ w.heap.size) : (w.alloc (.cells #[.int .u8 x] 5)).ownsRow B 5 1 (.slice (some ⟨w.heap.size, 0, none⟩) 1 1) 1 [u8 x] :=
  World.ownsRow_lit (base := B) (e := 5) (size := 1) w #[.int .u8 x] 1 hB (by unfold maxLen; omega) rfl
theorem bys_row {W : World} {a : Option Addr} {zs : List Int} (h : Row false 0 W.heap.size W a zs) : Bys W a zs := by
  intro j x hx
  obtain ⟨b, o, e, _, h2, hc, _⟩ := h j x hx
  exact ⟨b, o, e, h2, hc⟩
theorem byt_row {W : World} {a : Option Addr} {zs : List Int} (h : Row false 0 W.heap.size W a zs) : Byt zs := fun z hz => h.bd z hz
theorem pick_row (a : Option Addr) (cap : Nat) (l : List Int) (n : Int) (w : World) (hl : l.length ≤ 5000) (h1 : 1 ≤ n) (h2 : n ≤ 1000) (hr : Row false 0 w.heap.size w a l) :
    Calls Tryz.prog 7 #[.slice a l.length cap, .int .i64 n] w fun e w' => ∃ x, e = .returned (.int .i64 x) ∧ 0 ≤ x ∧ x < n ∧ w' = w := pick_any a cap l n w hl h1 h2 (byt_row hr) (bys_row hr)
/-- .. of a byte and bytes behind it, in a row of one's own -/
theorem pick_own (g c : Nat) (x : Int) (zs : List Int) (n : Int) (w : World) (B m : Nat) (hm : zs.length = m) (hl : m ≤ 4096) (h1 : 1 ≤ n) (h2 : n ≤ 1000) (hx : 0 ≤ x ∧ x ≤ 255) (hz : ∀ z ∈ zs, 0 ≤ z ∧ z ≤ 255) (ho : w.ownsRow B 5 1 (.slice (some ⟨g, 0, none⟩) (1 + m) c) (1 + m) ([u8 x] ++ zs.map u8)) :
    Calls Tryz.prog 7 #[.slice (some ⟨g, 0, none⟩) (1 + m) c, .int .i64 n] w fun e w' => ∃ y, e = .returned (.int .i64 y) ∧ 0 ≤ y ∧ y < n ∧ w' = w := by
  have hl2 : (x :: zs).length = 1 + m := by simp; omega
  have hr := (row_of_own (zs := x :: zs) (by simpa using ho) (by
    intro z hz2
    rcases List.mem_cons.1 hz2 with rfl | h
    · exact hx
    · exact hz z h)).read
  have hlt := own_lt ho
  have := pick_row (some ⟨g, 0, none⟩) c (x :: zs) n w (by rw [hl2]; omega) h1 h2 (hr.mono (Nat.zero_le _) (by omega))
  rw [hl2] at this
  exact this

theorem benchL_len (t : List UInt8) : (benchL t).length ≤ 14000200 := by
  unfold benchL
  split
  · simp
  · split
    · simp
    · have h := (fold_fine (Ln.rawL t)).2.2
      exact Nat.le_trans h (by
        have : (Ln.rawL t).length * 70001 ≤ 200 * 70001 := Nat.mul_le_mul_right _ (by omega)
        exact this)
theorem drewN_below (w : World) (n : Nat) : Below w.heap.size w (w.drewN n) := ⟨rfl, rfl, rfl, Nat.le_refl _, fun _ _ => rfl⟩

set_option maxRecDepth 100000 in
set_option maxHeartbeats 6400000 in
theorem lawTp (ad : Option Addr) (cap : Nat) (zs : List Int) (W : World) (hm0 : zs.length ≤ maxLen) (hz0 : ad = none → cap = 0) (hr : Row false 0 W.heap.size W ad zs) (hG : Gv W) :
    Calls Tryz.prog 3 #[.slice ad zs.length cap] W fun e w' => e = .returned (.bool true) ∧ Below W.heap.size W w' := by
  have hB0 := hide (big_any ad zs.length cap W hm0)
  have hr' := hide hr
  have hz' := hide hz0
  have hG' := hide hG
  clear hr hz0 hG
  obtain ⟨len, hlen⟩ : ∃ len, zs.length = len := ⟨_, rfl⟩
  have hlen' := hide hlen
  rw [hlen] at hB0 ⊢
  by_cases hbig : 4096 < len
  · rw [decide_eq_true hbig] at hB0
    go_enter Tryz.func3, Tryz.ntmps3
    go_wp2_with fail
    refine (unhide hB0).mono ?_
    rintro e w0 ⟨rfl, rfl⟩
    clear hB0
    go_wp2
    go_ret
    exact ⟨rfl, Below.refl _ _⟩
  rw [decide_eq_false hbig] at hB0
  have hle : len ≤ 4096 := by omega
  have hp1 := hide (pick_row ad cap zs 500 W (by omega) (by omega) (by omega) (unhide hr'))
  rw [hlen] at hp1
  clear hbig hlen
  go_enter Tryz.func3, Tryz.ntmps3
  go_wp2_with fail
  refine (unhide hB0).mono ?_
  rintro e w0 ⟨rfl, hw0⟩
  have hw1 := hw0.symm
  subst hw1
  clear hB0
  go_wp2_with fail
  refine (unhide hp1).mono ?_
  rintro e w1 ⟨x1, rfl, x10, x11, hw1⟩
  have hw2 := hw1.symm
  subst hw2
  clear hp1
  obtain ⟨a, hae⟩ : ∃ a, 10 + x1 = a := ⟨_, rfl⟩
  obtain rfl : x1 = a - 10 := by omega
  have a0 : 10 ≤ a := by omega
  have a1 : a < 510 := by omega
  have ea : (10 : Int) + (a - 10) = a := by omega
  clear hae x10 x11
  have kX := (Below.refl W.heap.size W).alloc (Nat.le_refl _) (.cells #[.int .u8 1] 5)
  have oX := hide (lit_own W 1 (B := W.heap.size) (Nat.le_refl _))
  have rX := hide ((unhide hr').belowW kX)
  go_wp2_with (at_builtin; refine wpList_bytesO _ rfl _ _ rfl W.heap.size 1 (W.alloc (.cells #[.int .u8 1] 5)).heap.size (.slice (some ⟨W.heap.size, 0, none⟩) 1 1) [u8 1] rfl (unhide oX) ad len cap zs (unhide hlen') rfl (unhide rX) (unhide hz') (by omega) (by simp) ?_)
  intro v2 w2 own2 gr2 _
  obtain ⟨g2, c2, rfl, hg2⟩ := own_some9 own2 (by omega)
  have B2 := hide (kX.grown gr2 (by simp) (fun k hk => by have e : W.heap.size = k := Option.some.inj hk; omega))
  have hp2 := hide (pick_own g2 c2 1 zs 90 w2 _ _ (unhide hlen') hle (by omega) (by omega) (by omega) (unhide hr').bd own2)
  clear own2 gr2 kX oX rX
  go_wp2_with fail
  refine (unhide hp2).mono ?_
  rintro e w3 ⟨x2, rfl, x20, x21, hw3⟩
  have hw4 := hw3.symm
  subst hw4
  clear hp2
  obtain ⟨n, hne⟩ : ∃ n, 4 + x2 = n := ⟨_, rfl⟩
  obtain rfl : x2 = n - 4 := by omega
  have n0 : 4 ≤ n := by omega
  have n1 : n < 94 := by omega
  have en : (4 : Int) + (n - 4) = n := by omega
  clear hne x20 x21
  have s2 := (unhide B2).size
  have kX := (Below.refl w2.heap.size w2).alloc (Nat.le_refl _) (.cells #[.int .u8 2] 5)
  have oX := hide (lit_own w2 2 (B := W.heap.size) s2)
  have BX := hide ((unhide B2).trans (kX.mono s2))
  have rX := hide ((unhide hr').belowW (unhide BX))
  go_wp2_with (at_builtin; refine wpList_bytesO _ rfl _ _ rfl W.heap.size 1 (w2.alloc (.cells #[.int .u8 2] 5)).heap.size (.slice (some ⟨w2.heap.size, 0, none⟩) 1 1) [u8 2] rfl (unhide oX) ad len cap zs (unhide hlen') rfl (unhide rX) (unhide hz') (by omega) (unhide BX).size ?_)
  intro v4 w4 own4 gr4 _
  obtain ⟨g4, c4, rfl, hg4⟩ := own_some9 own4 (by omega)
  have B4 := hide ((unhide BX).grown gr4 (unhide BX).size (fun k hk => by have e : w2.heap.size = k := Option.some.inj hk; omega))
  have hp3 := hide (pick_own g4 c4 2 zs (n - 2) w4 _ _ (unhide hlen') hle (by omega) (by omega) (by omega) (unhide hr').bd own4)
  clear own4 gr4 kX oX rX BX B2
  go_wp2_with fail
  refine (unhide hp3).mono ?_
  rintro e w5 ⟨x3, rfl, x30, x31, hw5⟩
  have hw6 := hw5.symm
  subst hw6
  clear hp3
  obtain ⟨k, hke⟩ : ∃ k, 1 + x3 = k := ⟨_, rfl⟩
  obtain rfl : x3 = k - 1 := by omega
  have k0 : 1 ≤ k := by omega
  have k1 : k ≤ n - 2 := by omega
  have ek : (1 : Int) + (k - 1) = k := by omega
  clear hke x30 x31
  have H := hide (TopH.mk a0 a1 n0 n1 k0 k1)
  have zDa : (Lib.itoa (a)).length ≤ 21 := Lib.itoa_length_le _ (by omega) (by omega)
  obtain ⟨Da, eDa⟩ : ∃ D : ByteArray, nt (a) = D := ⟨_, rfl⟩
  have CDa := hide (fun w => dig8_any (a) w (by omega) (by omega))
  rw [eDa] at CDa
  have zDn : (Lib.itoa (n)).length ≤ 21 := Lib.itoa_length_le _ (by omega) (by omega)
  obtain ⟨Dn, eDn⟩ : ∃ D : ByteArray, nt (n) = D := ⟨_, rfl⟩
  have CDn := hide (fun w => dig8_any (n) w (by omega) (by omega))
  rw [eDn] at CDn
  have zDk : (Lib.itoa (k)).length ≤ 21 := Lib.itoa_length_le _ (by omega) (by omega)
  obtain ⟨Dk, eDk⟩ : ∃ D : ByteArray, nt (k) = D := ⟨_, rfl⟩
  have CDk := hide (fun w => dig8_any (k) w (by omega) (by omega))
  rw [eDk] at CDk
  have zDk4 : (Lib.itoa (k + 4)).length ≤ 21 := Lib.itoa_length_le _ (by omega) (by omega)
  obtain ⟨Dk4, eDk4⟩ : ∃ D : ByteArray, nt (k + 4) = D := ⟨_, rfl⟩
  have CDk4 := hide (fun w => dig8_any (k + 4) w (by omega) (by omega))
  rw [eDk4] at CDk4
  have zDk5 : (Lib.itoa (k + 5)).length ≤ 21 := Lib.itoa_length_le _ (by omega) (by omega)
  obtain ⟨Dk5, eDk5⟩ : ∃ D : ByteArray, nt (k + 5) = D := ⟨_, rfl⟩
  have CDk5 := hide (fun w => dig8_any (k + 5) w (by omega) (by omega))
  rw [eDk5] at CDk5
  have zDn5 : (Lib.itoa (n + 5)).length ≤ 21 := Lib.itoa_length_le _ (by omega) (by omega)
  obtain ⟨Dn5, eDn5⟩ : ∃ D : ByteArray, nt (n + 5) = D := ⟨_, rfl⟩
  have CDn5 := hide (fun w => dig8_any (n + 5) w (by omega) (by omega))
  rw [eDn5] at CDn5
  have zDak : (Lib.itoa (a + k)).length ≤ 21 := Lib.itoa_length_le _ (by omega) (by omega)
  obtain ⟨Dak, eDak⟩ : ∃ D : ByteArray, nt (a + k) = D := ⟨_, rfl⟩
  have CDak := hide (fun w => dig8_any (a + k) w (by omega) (by omega))
  rw [eDak] at CDak
  have zDnk : (Lib.itoa (n - k)).length ≤ 21 := Lib.itoa_length_le _ (by omega) (by omega)
  obtain ⟨Dnk, eDnk⟩ : ∃ D : ByteArray, nt (n - k) = D := ⟨_, rfl⟩
  have CDnk := hide (fun w => dig8_any (n - k) w (by omega) (by omega))
  rw [eDnk] at CDnk
  obtain ⟨S29, eS29⟩ : ∃ D : ByteArray, (⟨([115, 117, 109, 10, 105, 110, 115, 101, 114, 116, 32, 48, 32, 51, 32] ++ Lib.itoa (a)).toArray⟩ : ByteArray) = D := ⟨_, rfl⟩
  have PS29 : ∀ w, (Op.stringOp .add (⟨#[115, 117, 109, 10, 105, 110, 115, 101, 114, 116, 32, 48, 32, 51, 32]⟩ : ByteArray) Da).run Tryz.prog w = .ok (.string S29) w := fun w => str_add (a := [115, 117, 109, 10, 105, 110, 115, 101, 114, 116, 32, 48, 32, 51, 32]) (b := Lib.itoa (a)) rfl eDa eS29 (by simp only [List.length_append, List.length_cons, List.length_nil]; omega) rfl w
  obtain ⟨S30, eS30⟩ : ∃ D : ByteArray, (⟨(([115, 117, 109, 10, 105, 110, 115, 101, 114, 116, 32, 48, 32, 51, 32] ++ Lib.itoa (a)) ++ [32]).toArray⟩ : ByteArray) = D := ⟨_, rfl⟩
  have PS30 : ∀ w, (Op.stringOp .add S29 (⟨#[32]⟩ : ByteArray)).run Tryz.prog w = .ok (.string S30) w := fun w => str_add (a := ([115, 117, 109, 10, 105, 110, 115, 101, 114, 116, 32, 48, 32, 51, 32] ++ Lib.itoa (a))) (b := [32]) eS29 rfl eS30 (by simp only [List.length_append, List.length_cons, List.length_nil]; omega) rfl w
  obtain ⟨S33, eS33⟩ : ∃ D : ByteArray, (⟨((([115, 117, 109, 10, 105, 110, 115, 101, 114, 116, 32, 48, 32, 51, 32] ++ Lib.itoa (a)) ++ [32]) ++ Lib.itoa (n)).toArray⟩ : ByteArray) = D := ⟨_, rfl⟩
  have PS33 : ∀ w, (Op.stringOp .add S30 Dn).run Tryz.prog w = .ok (.string S33) w := fun w => str_add (a := (([115, 117, 109, 10, 105, 110, 115, 101, 114, 116, 32, 48, 32, 51, 32] ++ Lib.itoa (a)) ++ [32])) (b := Lib.itoa (n)) eS30 eDn eS33 (by simp only [List.length_append, List.length_cons, List.length_nil]; omega) rfl w
  obtain ⟨S34, eS34⟩ : ∃ D : ByteArray, (⟨(((([115, 117, 109, 10, 105, 110, 115, 101, 114, 116, 32, 48, 32, 51, 32] ++ Lib.itoa (a)) ++ [32]) ++ Lib.itoa (n)) ++ [10, 105, 110, 115, 101, 114, 116, 32]).toArray⟩ : ByteArray) = D := ⟨_, rfl⟩
  have PS34 : ∀ w, (Op.stringOp .add S33 (⟨#[10, 105, 110, 115, 101, 114, 116, 32]⟩ : ByteArray)).run Tryz.prog w = .ok (.string S34) w := fun w => str_add (a := ((([115, 117, 109, 10, 105, 110, 115, 101, 114, 116, 32, 48, 32, 51, 32] ++ Lib.itoa (a)) ++ [32]) ++ Lib.itoa (n))) (b := [10, 105, 110, 115, 101, 114, 116, 32]) eS33 rfl eS34 (by simp only [List.length_append, List.length_cons, List.length_nil]; omega) rfl w
  obtain ⟨S37, eS37⟩ : ∃ D : ByteArray, (⟨((((([115, 117, 109, 10, 105, 110, 115, 101, 114, 116, 32, 48, 32, 51, 32] ++ Lib.itoa (a)) ++ [32]) ++ Lib.itoa (n)) ++ [10, 105, 110, 115, 101, 114, 116, 32]) ++ Lib.itoa (k)).toArray⟩ : ByteArray) = D := ⟨_, rfl⟩
  have PS37 : ∀ w, (Op.stringOp .add S34 Dk).run Tryz.prog w = .ok (.string S37) w := fun w => str_add (a := (((([115, 117, 109, 10, 105, 110, 115, 101, 114, 116, 32, 48, 32, 51, 32] ++ Lib.itoa (a)) ++ [32]) ++ Lib.itoa (n)) ++ [10, 105, 110, 115, 101, 114, 116, 32])) (b := Lib.itoa (k)) eS34 eDk eS37 (by simp only [List.length_append, List.length_cons, List.length_nil]; omega) rfl w
  obtain ⟨S38, eS38⟩ : ∃ D : ByteArray, (⟨(((((([115, 117, 109, 10, 105, 110, 115, 101, 114, 116, 32, 48, 32, 51, 32] ++ Lib.itoa (a)) ++ [32]) ++ Lib.itoa (n)) ++ [10, 105, 110, 115, 101, 114, 116, 32]) ++ Lib.itoa (k)) ++ [32, 55, 32, 52, 48, 32, 53, 10, 115, 104, 111, 119, 10, 97, 116, 32]).toArray⟩ : ByteArray) = D := ⟨_, rfl⟩
  have PS38 : ∀ w, (Op.stringOp .add S37 (⟨#[32, 55, 32, 52, 48, 32, 53, 10, 115, 104, 111, 119, 10, 97, 116, 32]⟩ : ByteArray)).run Tryz.prog w = .ok (.string S38) w := fun w => str_add (a := ((((([115, 117, 109, 10, 105, 110, 115, 101, 114, 116, 32, 48, 32, 51, 32] ++ Lib.itoa (a)) ++ [32]) ++ Lib.itoa (n)) ++ [10, 105, 110, 115, 101, 114, 116, 32]) ++ Lib.itoa (k))) (b := [32, 55, 32, 52, 48, 32, 53, 10, 115, 104, 111, 119, 10, 97, 116, 32]) eS37 rfl eS38 (by simp only [List.length_append, List.length_cons, List.length_nil]; omega) rfl w
  obtain ⟨S42, eS42⟩ : ∃ D : ByteArray, (⟨((((((([115, 117, 109, 10, 105, 110, 115, 101, 114, 116, 32, 48, 32, 51, 32] ++ Lib.itoa (a)) ++ [32]) ++ Lib.itoa (n)) ++ [10, 105, 110, 115, 101, 114, 116, 32]) ++ Lib.itoa (k)) ++ [32, 55, 32, 52, 48, 32, 53, 10, 115, 104, 111, 119, 10, 97, 116, 32]) ++ Lib.itoa (k + 4)).toArray⟩ : ByteArray) = D := ⟨_, rfl⟩
  have PS42 : ∀ w, (Op.stringOp .add S38 Dk4).run Tryz.prog w = .ok (.string S42) w := fun w => str_add (a := (((((([115, 117, 109, 10, 105, 110, 115, 101, 114, 116, 32, 48, 32, 51, 32] ++ Lib.itoa (a)) ++ [32]) ++ Lib.itoa (n)) ++ [10, 105, 110, 115, 101, 114, 116, 32]) ++ Lib.itoa (k)) ++ [32, 55, 32, 52, 48, 32, 53, 10, 115, 104, 111, 119, 10, 97, 116, 32])) (b := Lib.itoa (k + 4)) eS38 eDk4 eS42 (by simp only [List.length_append, List.length_cons, List.length_nil]; omega) rfl w
  obtain ⟨S43, eS43⟩ : ∃ D : ByteArray, (⟨(((((((([115, 117, 109, 10, 105, 110, 115, 101, 114, 116, 32, 48, 32, 51, 32] ++ Lib.itoa (a)) ++ [32]) ++ Lib.itoa (n)) ++ [10, 105, 110, 115, 101, 114, 116, 32]) ++ Lib.itoa (k)) ++ [32, 55, 32, 52, 48, 32, 53, 10, 115, 104, 111, 119, 10, 97, 116, 32]) ++ Lib.itoa (k + 4)) ++ [10, 97, 116, 32]).toArray⟩ : ByteArray) = D := ⟨_, rfl⟩
  have PS43 : ∀ w, (Op.stringOp .add S42 (⟨#[10, 97, 116, 32]⟩ : ByteArray)).run Tryz.prog w = .ok (.string S43) w := fun w => str_add (a := ((((((([115, 117, 109, 10, 105, 110, 115, 101, 114, 116, 32, 48, 32, 51, 32] ++ Lib.itoa (a)) ++ [32]) ++ Lib.itoa (n)) ++ [10, 105, 110, 115, 101, 114, 116, 32]) ++ Lib.itoa (k)) ++ [32, 55, 32, 52, 48, 32, 53, 10, 115, 104, 111, 119, 10, 97, 116, 32]) ++ Lib.itoa (k + 4))) (b := [10, 97, 116, 32]) eS42 rfl eS43 (by simp only [List.length_append, List.length_cons, List.length_nil]; omega) rfl w
  obtain ⟨S47, eS47⟩ : ∃ D : ByteArray, (⟨((((((((([115, 117, 109, 10, 105, 110, 115, 101, 114, 116, 32, 48, 32, 51, 32] ++ Lib.itoa (a)) ++ [32]) ++ Lib.itoa (n)) ++ [10, 105, 110, 115, 101, 114, 116, 32]) ++ Lib.itoa (k)) ++ [32, 55, 32, 52, 48, 32, 53, 10, 115, 104, 111, 119, 10, 97, 116, 32]) ++ Lib.itoa (k + 4)) ++ [10, 97, 116, 32]) ++ Lib.itoa (k + 5)).toArray⟩ : ByteArray) = D := ⟨_, rfl⟩
  have PS47 : ∀ w, (Op.stringOp .add S43 Dk5).run Tryz.prog w = .ok (.string S47) w := fun w => str_add (a := (((((((([115, 117, 109, 10, 105, 110, 115, 101, 114, 116, 32, 48, 32, 51, 32] ++ Lib.itoa (a)) ++ [32]) ++ Lib.itoa (n)) ++ [10, 105, 110, 115, 101, 114, 116, 32]) ++ Lib.itoa (k)) ++ [32, 55, 32, 52, 48, 32, 53, 10, 115, 104, 111, 119, 10, 97, 116, 32]) ++ Lib.itoa (k + 4)) ++ [10, 97, 116, 32])) (b := Lib.itoa (k + 5)) eS43 eDk5 eS47 (by simp only [List.length_append, List.length_cons, List.length_nil]; omega) rfl w
  obtain ⟨S48, eS48⟩ : ∃ D : ByteArray, (⟨(((((((((([115, 117, 109, 10, 105, 110, 115, 101, 114, 116, 32, 48, 32, 51, 32] ++ Lib.itoa (a)) ++ [32]) ++ Lib.itoa (n)) ++ [10, 105, 110, 115, 101, 114, 116, 32]) ++ Lib.itoa (k)) ++ [32, 55, 32, 52, 48, 32, 53, 10, 115, 104, 111, 119, 10, 97, 116, 32]) ++ Lib.itoa (k + 4)) ++ [10, 97, 116, 32]) ++ Lib.itoa (k + 5)) ++ [10, 115, 108, 105, 112, 32, 49, 32, 50, 10, 97, 116, 32]).toArray⟩ : ByteArray) = D := ⟨_, rfl⟩
  have PS48 : ∀ w, (Op.stringOp .add S47 (⟨#[10, 115, 108, 105, 112, 32, 49, 32, 50, 10, 97, 116, 32]⟩ : ByteArray)).run Tryz.prog w = .ok (.string S48) w := fun w => str_add (a := ((((((((([115, 117, 109, 10, 105, 110, 115, 101, 114, 116, 32, 48, 32, 51, 32] ++ Lib.itoa (a)) ++ [32]) ++ Lib.itoa (n)) ++ [10, 105, 110, 115, 101, 114, 116, 32]) ++ Lib.itoa (k)) ++ [32, 55, 32, 52, 48, 32, 53, 10, 115, 104, 111, 119, 10, 97, 116, 32]) ++ Lib.itoa (k + 4)) ++ [10, 97, 116, 32]) ++ Lib.itoa (k + 5))) (b := [10, 115, 108, 105, 112, 32, 49, 32, 50, 10, 97, 116, 32]) eS47 rfl eS48 (by simp only [List.length_append, List.length_cons, List.length_nil]; omega) rfl w
  obtain ⟨S51, eS51⟩ : ∃ D : ByteArray, (⟨((((((((((([115, 117, 109, 10, 105, 110, 115, 101, 114, 116, 32, 48, 32, 51, 32] ++ Lib.itoa (a)) ++ [32]) ++ Lib.itoa (n)) ++ [10, 105, 110, 115, 101, 114, 116, 32]) ++ Lib.itoa (k)) ++ [32, 55, 32, 52, 48, 32, 53, 10, 115, 104, 111, 119, 10, 97, 116, 32]) ++ Lib.itoa (k + 4)) ++ [10, 97, 116, 32]) ++ Lib.itoa (k + 5)) ++ [10, 115, 108, 105, 112, 32, 49, 32, 50, 10, 97, 116, 32]) ++ Lib.itoa (k)).toArray⟩ : ByteArray) = D := ⟨_, rfl⟩
  have PS51 : ∀ w, (Op.stringOp .add S48 Dk).run Tryz.prog w = .ok (.string S51) w := fun w => str_add (a := (((((((((([115, 117, 109, 10, 105, 110, 115, 101, 114, 116, 32, 48, 32, 51, 32] ++ Lib.itoa (a)) ++ [32]) ++ Lib.itoa (n)) ++ [10, 105, 110, 115, 101, 114, 116, 32]) ++ Lib.itoa (k)) ++ [32, 55, 32, 52, 48, 32, 53, 10, 115, 104, 111, 119, 10, 97, 116, 32]) ++ Lib.itoa (k + 4)) ++ [10, 97, 116, 32]) ++ Lib.itoa (k + 5)) ++ [10, 115, 108, 105, 112, 32, 49, 32, 50, 10, 97, 116, 32])) (b := Lib.itoa (k)) eS48 eDk eS51 (by simp only [List.length_append, List.length_cons, List.length_nil]; omega) rfl w
  obtain ⟨S52, eS52⟩ : ∃ D : ByteArray, (⟨(((((((((((([115, 117, 109, 10, 105, 110, 115, 101, 114, 116, 32, 48, 32, 51, 32] ++ Lib.itoa (a)) ++ [32]) ++ Lib.itoa (n)) ++ [10, 105, 110, 115, 101, 114, 116, 32]) ++ Lib.itoa (k)) ++ [32, 55, 32, 52, 48, 32, 53, 10, 115, 104, 111, 119, 10, 97, 116, 32]) ++ Lib.itoa (k + 4)) ++ [10, 97, 116, 32]) ++ Lib.itoa (k + 5)) ++ [10, 115, 108, 105, 112, 32, 49, 32, 50, 10, 97, 116, 32]) ++ Lib.itoa (k)) ++ [10, 101, 120, 116, 114, 97, 99, 116, 32]).toArray⟩ : ByteArray) = D := ⟨_, rfl⟩
  have PS52 : ∀ w, (Op.stringOp .add S51 (⟨#[10, 101, 120, 116, 114, 97, 99, 116, 32]⟩ : ByteArray)).run Tryz.prog w = .ok (.string S52) w := fun w => str_add (a := ((((((((((([115, 117, 109, 10, 105, 110, 115, 101, 114, 116, 32, 48, 32, 51, 32] ++ Lib.itoa (a)) ++ [32]) ++ Lib.itoa (n)) ++ [10, 105, 110, 115, 101, 114, 116, 32]) ++ Lib.itoa (k)) ++ [32, 55, 32, 52, 48, 32, 53, 10, 115, 104, 111, 119, 10, 97, 116, 32]) ++ Lib.itoa (k + 4)) ++ [10, 97, 116, 32]) ++ Lib.itoa (k + 5)) ++ [10, 115, 108, 105, 112, 32, 49, 32, 50, 10, 97, 116, 32]) ++ Lib.itoa (k))) (b := [10, 101, 120, 116, 114, 97, 99, 116, 32]) eS51 rfl eS52 (by simp only [List.length_append, List.length_cons, List.length_nil]; omega) rfl w
  obtain ⟨S55, eS55⟩ : ∃ D : ByteArray, (⟨((((((((((((([115, 117, 109, 10, 105, 110, 115, 101, 114, 116, 32, 48, 32, 51, 32] ++ Lib.itoa (a)) ++ [32]) ++ Lib.itoa (n)) ++ [10, 105, 110, 115, 101, 114, 116, 32]) ++ Lib.itoa (k)) ++ [32, 55, 32, 52, 48, 32, 53, 10, 115, 104, 111, 119, 10, 97, 116, 32]) ++ Lib.itoa (k + 4)) ++ [10, 97, 116, 32]) ++ Lib.itoa (k + 5)) ++ [10, 115, 108, 105, 112, 32, 49, 32, 50, 10, 97, 116, 32]) ++ Lib.itoa (k)) ++ [10, 101, 120, 116, 114, 97, 99, 116, 32]) ++ Lib.itoa (k)).toArray⟩ : ByteArray) = D := ⟨_, rfl⟩
  have PS55 : ∀ w, (Op.stringOp .add S52 Dk).run Tryz.prog w = .ok (.string S55) w := fun w => str_add (a := (((((((((((([115, 117, 109, 10, 105, 110, 115, 101, 114, 116, 32, 48, 32, 51, 32] ++ Lib.itoa (a)) ++ [32]) ++ Lib.itoa (n)) ++ [10, 105, 110, 115, 101, 114, 116, 32]) ++ Lib.itoa (k)) ++ [32, 55, 32, 52, 48, 32, 53, 10, 115, 104, 111, 119, 10, 97, 116, 32]) ++ Lib.itoa (k + 4)) ++ [10, 97, 116, 32]) ++ Lib.itoa (k + 5)) ++ [10, 115, 108, 105, 112, 32, 49, 32, 50, 10, 97, 116, 32]) ++ Lib.itoa (k)) ++ [10, 101, 120, 116, 114, 97, 99, 116, 32])) (b := Lib.itoa (k)) eS52 eDk eS55 (by simp only [List.length_append, List.length_cons, List.length_nil]; omega) rfl w
  obtain ⟨S56, eS56⟩ : ∃ D : ByteArray, (⟨(((((((((((((([115, 117, 109, 10, 105, 110, 115, 101, 114, 116, 32, 48, 32, 51, 32] ++ Lib.itoa (a)) ++ [32]) ++ Lib.itoa (n)) ++ [10, 105, 110, 115, 101, 114, 116, 32]) ++ Lib.itoa (k)) ++ [32, 55, 32, 52, 48, 32, 53, 10, 115, 104, 111, 119, 10, 97, 116, 32]) ++ Lib.itoa (k + 4)) ++ [10, 97, 116, 32]) ++ Lib.itoa (k + 5)) ++ [10, 115, 108, 105, 112, 32, 49, 32, 50, 10, 97, 116, 32]) ++ Lib.itoa (k)) ++ [10, 101, 120, 116, 114, 97, 99, 116, 32]) ++ Lib.itoa (k)) ++ [32, 53, 10, 115, 104, 111, 119, 10, 99, 104, 97, 110, 103, 101, 115, 10, 117, 110, 100, 111, 10, 117, 110, 100, 111, 10, 117, 110, 100, 111, 10, 115, 104, 111, 119, 10, 117, 110, 100, 111, 10, 115, 117, 109, 10, 117, 110, 100, 111, 10]).toArray⟩ : ByteArray) = D := ⟨_, rfl⟩
  have PS56 : ∀ w, (Op.stringOp .add S55 (⟨#[32, 53, 10, 115, 104, 111, 119, 10, 99, 104, 97, 110, 103, 101, 115, 10, 117, 110, 100, 111, 10, 117, 110, 100, 111, 10, 117, 110, 100, 111, 10, 115, 104, 111, 119, 10, 117, 110, 100, 111, 10, 115, 117, 109, 10, 117, 110, 100, 111, 10]⟩ : ByteArray)).run Tryz.prog w = .ok (.string S56) w := fun w => str_add (a := ((((((((((((([115, 117, 109, 10, 105, 110, 115, 101, 114, 116, 32, 48, 32, 51, 32] ++ Lib.itoa (a)) ++ [32]) ++ Lib.itoa (n)) ++ [10, 105, 110, 115, 101, 114, 116, 32]) ++ Lib.itoa (k)) ++ [32, 55, 32, 52, 48, 32, 53, 10, 115, 104, 111, 119, 10, 97, 116, 32]) ++ Lib.itoa (k + 4)) ++ [10, 97, 116, 32]) ++ Lib.itoa (k + 5)) ++ [10, 115, 108, 105, 112, 32, 49, 32, 50, 10, 97, 116, 32]) ++ Lib.itoa (k)) ++ [10, 101, 120, 116, 114, 97, 99, 116, 32]) ++ Lib.itoa (k))) (b := [32, 53, 10, 115, 104, 111, 119, 10, 99, 104, 97, 110, 103, 101, 115, 10, 117, 110, 100, 111, 10, 117, 110, 100, 111, 10, 117, 110, 100, 111, 10, 115, 104, 111, 119, 10, 117, 110, 100, 111, 10, 115, 117, 109, 10, 117, 110, 100, 111, 10]) eS55 rfl eS56 (by simp only [List.length_append, List.length_cons, List.length_nil]; omega) rfl w
  obtain ⟨S59, eS59⟩ : ∃ D : ByteArray, (⟨([111, 107, 32] ++ Lib.itoa (n)).toArray⟩ : ByteArray) = D := ⟨_, rfl⟩
  have PS59 : ∀ w, (Op.stringOp .add (⟨#[111, 107, 32]⟩ : ByteArray) Dn).run Tryz.prog w = .ok (.string S59) w := fun w => str_add (a := [111, 107, 32]) (b := Lib.itoa (n)) rfl eDn eS59 (by simp only [List.length_append, List.length_cons, List.length_nil]; omega) rfl w
  obtain ⟨S63, eS63⟩ : ∃ D : ByteArray, (⟨([111, 107, 32] ++ Lib.itoa (n + 5)).toArray⟩ : ByteArray) = D := ⟨_, rfl⟩
  have PS63 : ∀ w, (Op.stringOp .add (⟨#[111, 107, 32]⟩ : ByteArray) Dn5).run Tryz.prog w = .ok (.string S63) w := fun w => str_add (a := [111, 107, 32]) (b := Lib.itoa (n + 5)) rfl eDn5 eS63 (by simp only [List.length_append, List.length_cons, List.length_nil]; omega) rfl w
  obtain ⟨S66, eS66⟩ : ∃ D : ByteArray, (⟨([111, 107, 32, 51, 58] ++ Lib.itoa (a)).toArray⟩ : ByteArray) = D := ⟨_, rfl⟩
  have PS66 : ∀ w, (Op.stringOp .add (⟨#[111, 107, 32, 51, 58]⟩ : ByteArray) Da).run Tryz.prog w = .ok (.string S66) w := fun w => str_add (a := [111, 107, 32, 51, 58]) (b := Lib.itoa (a)) rfl eDa eS66 (by simp only [List.length_append, List.length_cons, List.length_nil]; omega) rfl w
  obtain ⟨S67, eS67⟩ : ∃ D : ByteArray, (⟨(([111, 107, 32, 51, 58] ++ Lib.itoa (a)) ++ [43]).toArray⟩ : ByteArray) = D := ⟨_, rfl⟩
  have PS67 : ∀ w, (Op.stringOp .add S66 (⟨#[43]⟩ : ByteArray)).run Tryz.prog w = .ok (.string S67) w := fun w => str_add (a := ([111, 107, 32, 51, 58] ++ Lib.itoa (a))) (b := [43]) eS66 rfl eS67 (by simp only [List.length_append, List.length_cons, List.length_nil]; omega) rfl w
  obtain ⟨S70, eS70⟩ : ∃ D : ByteArray, (⟨((([111, 107, 32, 51, 58] ++ Lib.itoa (a)) ++ [43]) ++ Lib.itoa (k)).toArray⟩ : ByteArray) = D := ⟨_, rfl⟩
  have PS70 : ∀ w, (Op.stringOp .add S67 Dk).run Tryz.prog w = .ok (.string S70) w := fun w => str_add (a := (([111, 107, 32, 51, 58] ++ Lib.itoa (a)) ++ [43])) (b := Lib.itoa (k)) eS67 eDk eS70 (by simp only [List.length_append, List.length_cons, List.length_nil]; omega) rfl w
  obtain ⟨S71, eS71⟩ : ∃ D : ByteArray, (⟨(((([111, 107, 32, 51, 58] ++ Lib.itoa (a)) ++ [43]) ++ Lib.itoa (k)) ++ [32, 55, 58, 52, 48, 43, 53, 32, 51, 58]).toArray⟩ : ByteArray) = D := ⟨_, rfl⟩
  have PS71 : ∀ w, (Op.stringOp .add S70 (⟨#[32, 55, 58, 52, 48, 43, 53, 32, 51, 58]⟩ : ByteArray)).run Tryz.prog w = .ok (.string S71) w := fun w => str_add (a := ((([111, 107, 32, 51, 58] ++ Lib.itoa (a)) ++ [43]) ++ Lib.itoa (k))) (b := [32, 55, 58, 52, 48, 43, 53, 32, 51, 58]) eS70 rfl eS71 (by simp only [List.length_append, List.length_cons, List.length_nil]; omega) rfl w
  obtain ⟨S76, eS76⟩ : ∃ D : ByteArray, (⟨((((([111, 107, 32, 51, 58] ++ Lib.itoa (a)) ++ [43]) ++ Lib.itoa (k)) ++ [32, 55, 58, 52, 48, 43, 53, 32, 51, 58]) ++ Lib.itoa (a + k)).toArray⟩ : ByteArray) = D := ⟨_, rfl⟩
  have PS76 : ∀ w, (Op.stringOp .add S71 Dak).run Tryz.prog w = .ok (.string S76) w := fun w => str_add (a := (((([111, 107, 32, 51, 58] ++ Lib.itoa (a)) ++ [43]) ++ Lib.itoa (k)) ++ [32, 55, 58, 52, 48, 43, 53, 32, 51, 58])) (b := Lib.itoa (a + k)) eS71 eDak eS76 (by simp only [List.length_append, List.length_cons, List.length_nil]; omega) rfl w
  obtain ⟨S77, eS77⟩ : ∃ D : ByteArray, (⟨(((((([111, 107, 32, 51, 58] ++ Lib.itoa (a)) ++ [43]) ++ Lib.itoa (k)) ++ [32, 55, 58, 52, 48, 43, 53, 32, 51, 58]) ++ Lib.itoa (a + k)) ++ [43]).toArray⟩ : ByteArray) = D := ⟨_, rfl⟩
  have PS77 : ∀ w, (Op.stringOp .add S76 (⟨#[43]⟩ : ByteArray)).run Tryz.prog w = .ok (.string S77) w := fun w => str_add (a := ((((([111, 107, 32, 51, 58] ++ Lib.itoa (a)) ++ [43]) ++ Lib.itoa (k)) ++ [32, 55, 58, 52, 48, 43, 53, 32, 51, 58]) ++ Lib.itoa (a + k))) (b := [43]) eS76 rfl eS77 (by simp only [List.length_append, List.length_cons, List.length_nil]; omega) rfl w
  obtain ⟨S82, eS82⟩ : ∃ D : ByteArray, (⟨((((((([111, 107, 32, 51, 58] ++ Lib.itoa (a)) ++ [43]) ++ Lib.itoa (k)) ++ [32, 55, 58, 52, 48, 43, 53, 32, 51, 58]) ++ Lib.itoa (a + k)) ++ [43]) ++ Lib.itoa (n - k)).toArray⟩ : ByteArray) = D := ⟨_, rfl⟩
  have PS82 : ∀ w, (Op.stringOp .add S77 Dnk).run Tryz.prog w = .ok (.string S82) w := fun w => str_add (a := (((((([111, 107, 32, 51, 58] ++ Lib.itoa (a)) ++ [43]) ++ Lib.itoa (k)) ++ [32, 55, 58, 52, 48, 43, 53, 32, 51, 58]) ++ Lib.itoa (a + k)) ++ [43])) (b := Lib.itoa (n - k)) eS77 eDnk eS82 (by simp only [List.length_append, List.length_cons, List.length_nil]; omega) rfl w
  obtain ⟨S87, eS87⟩ : ∃ D : ByteArray, (⟨([111, 107, 32, 51, 32] ++ Lib.itoa (a + k)).toArray⟩ : ByteArray) = D := ⟨_, rfl⟩
  have PS87 : ∀ w, (Op.stringOp .add (⟨#[111, 107, 32, 51, 32]⟩ : ByteArray) Dak).run Tryz.prog w = .ok (.string S87) w := fun w => str_add (a := [111, 107, 32, 51, 32]) (b := Lib.itoa (a + k)) rfl eDak eS87 (by simp only [List.length_append, List.length_cons, List.length_nil]; omega) rfl w
  obtain ⟨S101, eS101⟩ : ∃ D : ByteArray, (⟨((([111, 107, 32, 51, 58] ++ Lib.itoa (a)) ++ [43]) ++ Lib.itoa (n)).toArray⟩ : ByteArray) = D := ⟨_, rfl⟩
  have PS101 : ∀ w, (Op.stringOp .add S67 Dn).run Tryz.prog w = .ok (.string S101) w := fun w => str_add (a := (([111, 107, 32, 51, 58] ++ Lib.itoa (a)) ++ [43])) (b := Lib.itoa (n)) eS67 eDn eS101 (by simp only [List.length_append, List.length_cons, List.length_nil]; omega) rfl w
  obtain ⟨S104, eS104⟩ : ∃ D : ByteArray, (⟨([111, 107, 32, 49, 32] ++ Lib.itoa (n)).toArray⟩ : ByteArray) = D := ⟨_, rfl⟩
  have PS104 : ∀ w, (Op.stringOp .add (⟨#[111, 107, 32, 49, 32]⟩ : ByteArray) Dn).run Tryz.prog w = .ok (.string S104) w := fun w => str_add (a := [111, 107, 32, 49, 32]) (b := Lib.itoa (n)) rfl eDn eS104 (by simp only [List.length_append, List.length_cons, List.length_nil]; omega) rfl w
  have hT := hide (show bsL (topT a n k) = S56 from eS56)
  have hWl : Hid ((topW a n k).map bsL = [⟨#[111, 107, 32, 48]⟩, S59, S63, S82, ⟨#[111, 107, 32, 55, 32, 52, 52]⟩, S87, S63, ⟨#[111, 107, 32, 55, 32, 52, 50]⟩, S59, S101, S104, S63, S63, S59, S101, ⟨#[111, 107, 32, 48]⟩, ⟨#[111, 107, 32, 48]⟩, ⟨#[101, 114, 114, 111, 114, 32, 51]⟩]) := hide (by
    simp only [topW, List.map_cons, List.map_nil, bsL, eS101, eS104, eS59, eS63, eS82, eS87])
  clear eDa eDn eDk eDk4 eDk5 eDn5 eDak eDnk zDa zDn zDk zDk4 zDk5 zDn5 zDak zDnk eS29 eS30 eS33 eS34 eS37 eS38 eS42 eS43 eS47 eS48 eS51 eS52 eS55 eS56 eS59 eS63 eS66 eS67 eS70 eS71 eS76 eS77 eS82 eS87 eS101 eS104
  go_wp2_with fail
  refine (unhide CDa _).mono ?_
  rintro e y0 ⟨rfl, b0⟩
  have Y0 := hide (laterB (unhide B4) b0)
  clear b0 B4
  go_wp2_with fail
  refine (unhide CDn _).mono ?_
  rintro e y1 ⟨rfl, b1⟩
  have Y1 := hide (laterB (unhide Y0) b1)
  clear b1 Y0
  go_wp2_with fail
  refine (unhide CDk _).mono ?_
  rintro e y2 ⟨rfl, b2⟩
  have Y2 := hide (laterB (unhide Y1) b2)
  clear b2 Y1
  go_wp2_with fail
  refine (unhide CDk4 _).mono ?_
  rintro e y3 ⟨rfl, b3⟩
  have Y3 := hide (laterB (unhide Y2) b3)
  clear b3 Y2
  go_wp2_with fail
  refine (unhide CDk5 _).mono ?_
  rintro e y4 ⟨rfl, b4⟩
  have Y4 := hide (laterB (unhide Y3) b4)
  clear b4 Y3
  go_wp2_with fail
  refine (unhide CDk _).mono ?_
  rintro e y5 ⟨rfl, b5⟩
  have Y5 := hide (laterB (unhide Y4) b5)
  clear b5 Y4
  go_wp2_with fail
  refine (unhide CDk _).mono ?_
  rintro e y6 ⟨rfl, b6⟩
  have Y6 := hide (laterB (unhide Y5) b6)
  clear b6 Y5
  go_wp2_with fail
  refine (unhide CDn _).mono ?_
  rintro e y7 ⟨rfl, b7⟩
  have Y7 := hide (laterB (unhide Y6) b7)
  clear b7 Y6
  go_wp2_with fail
  refine (unhide CDn5 _).mono ?_
  rintro e y8 ⟨rfl, b8⟩
  have Y8 := hide (laterB (unhide Y7) b8)
  clear b8 Y7
  go_wp2_with fail
  refine (unhide CDa _).mono ?_
  rintro e y9 ⟨rfl, b9⟩
  have Y9 := hide (laterB (unhide Y8) b9)
  clear b9 Y8
  go_wp2_with fail
  refine (unhide CDk _).mono ?_
  rintro e y10 ⟨rfl, b10⟩
  have Y10 := hide (laterB (unhide Y9) b10)
  clear b10 Y9
  go_wp2_with fail
  refine (unhide CDak _).mono ?_
  rintro e y11 ⟨rfl, b11⟩
  have Y11 := hide (laterB (unhide Y10) b11)
  clear b11 Y10
  go_wp2_with fail
  refine (unhide CDnk _).mono ?_
  rintro e y12 ⟨rfl, b12⟩
  have Y12 := hide (laterB (unhide Y11) b12)
  clear b12 Y11
  go_wp2_with fail
  refine (unhide CDak _).mono ?_
  rintro e y13 ⟨rfl, b13⟩
  have Y13 := hide (laterB (unhide Y12) b13)
  clear b13 Y12
  go_wp2_with fail
  refine (unhide CDn5 _).mono ?_
  rintro e y14 ⟨rfl, b14⟩
  have Y14 := hide (laterB (unhide Y13) b14)
  clear b14 Y13
  go_wp2_with fail
  refine (unhide CDn _).mono ?_
  rintro e y15 ⟨rfl, b15⟩
  have Y15 := hide (laterB (unhide Y14) b15)
  clear b15 Y14
  go_wp2_with fail
  refine (unhide CDa _).mono ?_
  rintro e y16 ⟨rfl, b16⟩
  have Y16 := hide (laterB (unhide Y15) b16)
  clear b16 Y15
  go_wp2_with fail
  refine (unhide CDn _).mono ?_
  rintro e y17 ⟨rfl, b17⟩
  have Y17 := hide (laterB (unhide Y16) b17)
  clear b17 Y16
  go_wp2_with fail
  refine (unhide CDn _).mono ?_
  rintro e y18 ⟨rfl, b18⟩
  have Y18 := hide (laterB (unhide Y17) b18)
  clear b18 Y17
  go_wp2_with fail
  refine (unhide CDn5 _).mono ?_
  rintro e y19 ⟨rfl, b19⟩
  have Y19 := hide (laterB (unhide Y18) b19)
  clear b19 Y18
  go_wp2_with fail
  refine (unhide CDn5 _).mono ?_
  rintro e y20 ⟨rfl, b20⟩
  have Y20 := hide (laterB (unhide Y19) b20)
  clear b20 Y19
  go_wp2_with fail
  refine (unhide CDn _).mono ?_
  rintro e y21 ⟨rfl, b21⟩
  have Y21 := hide (laterB (unhide Y20) b21)
  clear b21 Y20
  go_wp2_with fail
  refine (unhide CDa _).mono ?_
  rintro e y22 ⟨rfl, b22⟩
  have Y22 := hide (laterB (unhide Y21) b22)
  clear b22 Y21
  go_wp2_with fail
  refine (unhide CDn _).mono ?_
  rintro e y23 ⟨rfl, b23⟩
  have Y23 := hide (laterB (unhide Y22) b23)
  clear b23 Y22
  have hblk := hide (show (y23.alloc (.cells #[.string ⟨#[111, 107, 32, 48]⟩, .string S59, .string S63, .string S82, .string ⟨#[111, 107, 32, 55, 32, 52, 52]⟩, .string S87, .string S63, .string ⟨#[111, 107, 32, 55, 32, 52, 50]⟩, .string S59, .string S101, .string S104, .string S63, .string S63, .string S59, .string S101, .string ⟨#[111, 107, 32, 48]⟩, .string ⟨#[111, 107, 32, 48]⟩, .string ⟨#[101, 114, 114, 111, 114, 32, 51]⟩] 9)).heap[y23.heap.size]? = some (.cells #[.string ⟨#[111, 107, 32, 48]⟩, .string S59, .string S63, .string S82, .string ⟨#[111, 107, 32, 55, 32, 52, 52]⟩, .string S87, .string S63, .string ⟨#[111, 107, 32, 55, 32, 52, 50]⟩, .string S59, .string S101, .string S104, .string S63, .string S63, .string S59, .string S101, .string ⟨#[111, 107, 32, 48]⟩, .string ⟨#[111, 107, 32, 48]⟩, .string ⟨#[101, 114, 114, 111, 114, 32, 51]⟩] 9 (0, 0)) from World.alloc_heap_new _ _)
  have Bv := hide ((unhide Y23).alloc (unhide Y23).size (.cells #[.string ⟨#[111, 107, 32, 48]⟩, .string S59, .string S63, .string S82, .string ⟨#[111, 107, 32, 55, 32, 52, 52]⟩, .string S87, .string S63, .string ⟨#[111, 107, 32, 55, 32, 52, 50]⟩, .string S59, .string S101, .string S104, .string S63, .string S63, .string S59, .string S101, .string ⟨#[111, 107, 32, 48]⟩, .string ⟨#[111, 107, 32, 48]⟩, .string ⟨#[101, 114, 114, 111, 114, 32, 51]⟩] 9))
  have hE : y23.heap.size < (y23.alloc (.cells #[.string ⟨#[111, 107, 32, 48]⟩, .string S59, .string S63, .string S82, .string ⟨#[111, 107, 32, 55, 32, 52, 52]⟩, .string S87, .string S63, .string ⟨#[111, 107, 32, 55, 32, 52, 50]⟩, .string S59, .string S101, .string S104, .string S63, .string S63, .string S59, .string S101, .string ⟨#[111, 107, 32, 48]⟩, .string ⟨#[111, 107, 32, 48]⟩, .string ⟨#[101, 114, 114, 111, 114, 32, 51]⟩] 9)).heap.size := by simp
  clear Y23
  have hBn := hide (fun w (h : Gv w) => bench_any S56 w (by rw [← unhide hT]; have := top_len (unhide H); show (topT a n k).toArray.size ≤ _; simp; omega) h)
  obtain ⟨R, hR⟩ : ∃ R : ByteArray, (⟨(benchL S56.data.toList).toArray⟩ : ByteArray) = R := ⟨_, rfl⟩
  have hR2 : Hid (linesC R.data.toList = topW a n k ∧ R.size ≤ 100000000) := by
    have e1 : S56.data.toList = topT a n k := by rw [← unhide hT]; simp [bsL]
    have e2 : R.data.toList = benchL (topT a n k) := by rw [← hR, e1]
    refine hide ⟨by rw [e2]; exact top_lines (unhide H), ?_⟩
    rw [Lib.size_eq, e2]
    have := benchL_len (topT a n k)
    omega
  rw [hR] at hBn
  clear hR
  have hL9 := hide (fun w => lines9_any R w (unhide hR2).2 (by rw [(unhide hR2).1]; simp [topW]))
  rw [(unhide hR2).1, show (topW a n k).length = 18 from rfl] at hL9
  clear hR2 hT H
  go_wp2_with fail
  generalize y23.heap.size = E at *
  refine (unhide hBn _ ((unhide hG').below (unhide Bv))).mono ?_
  rintro e w7 ⟨rfl, b7⟩
  have B7 := hide (laterB (unhide Bv) b7)
  have blk7 := hide ((b7.block E hE).trans (unhide hblk))
  have hE7 := Nat.lt_of_lt_of_le hE b7.size
  clear b7 hBn Bv hblk hE
  go_wp2_with fail
  refine (unhide hL9 _).mono ?_
  rintro e w8 ⟨g, c, rfl, hg, own8, b8⟩
  have B8 := hide (laterB (unhide B7) b8)
  have hcl : Hid (∀ j : Nat, j < 18 → ∃ x : ByteArray, w8.cell? ⟨g, j, none⟩ = some (.string x) ∧ w8.cell? ⟨E, j, none⟩ = some (.string x)) := by
    refine hide (fun j hj => ?_)
    have h1 := own8.cellAt j (by omega)
    have h2 : w8.cell? ⟨E, j, none⟩ = (#[.string ⟨#[111, 107, 32, 48]⟩, .string S59, .string S63, .string S82, .string ⟨#[111, 107, 32, 55, 32, 52, 52]⟩, .string S87, .string S63, .string ⟨#[111, 107, 32, 55, 32, 52, 50]⟩, .string S59, .string S101, .string S104, .string S63, .string S63, .string S59, .string S101, .string ⟨#[111, 107, 32, 48]⟩, .string ⟨#[111, 107, 32, 48]⟩, .string ⟨#[101, 114, 114, 111, 114, 32, 51]⟩] : Array Value)[j]? := by
      have hb := (b8.block E hE7).trans (unhide blk7)
      simp [World.cell?, hb]
    have h3 : (topW a n k).map (fun x => Value.string (bsL x)) = [.string ⟨#[111, 107, 32, 48]⟩, .string S59, .string S63, .string S82, .string ⟨#[111, 107, 32, 55, 32, 52, 52]⟩, .string S87, .string S63, .string ⟨#[111, 107, 32, 55, 32, 52, 50]⟩, .string S59, .string S101, .string S104, .string S63, .string S63, .string S59, .string S101, .string ⟨#[111, 107, 32, 48]⟩, .string ⟨#[111, 107, 32, 48]⟩, .string ⟨#[101, 114, 114, 111, 114, 32, 51]⟩] := by
      rw [show (topW a n k).map (fun x => Value.string (bsL x)) = ((topW a n k).map bsL).map Value.string by rw [List.map_map]; rfl, unhide hWl]
      rfl
    rw [h3] at h1
    have h4 : (#[.string ⟨#[111, 107, 32, 48]⟩, .string S59, .string S63, .string S82, .string ⟨#[111, 107, 32, 55, 32, 52, 52]⟩, .string S87, .string S63, .string ⟨#[111, 107, 32, 55, 32, 52, 50]⟩, .string S59, .string S101, .string S104, .string S63, .string S63, .string S59, .string S101, .string ⟨#[111, 107, 32, 48]⟩, .string ⟨#[111, 107, 32, 48]⟩, .string ⟨#[101, 114, 114, 111, 114, 32, 51]⟩] : Array Value)[j]? = ([.string ⟨#[111, 107, 32, 48]⟩, .string S59, .string S63, .string S82, .string ⟨#[111, 107, 32, 55, 32, 52, 52]⟩, .string S87, .string S63, .string ⟨#[111, 107, 32, 55, 32, 52, 50]⟩, .string S59, .string S101, .string S104, .string S63, .string S63, .string S59, .string S101, .string ⟨#[111, 107, 32, 48]⟩, .string ⟨#[111, 107, 32, 48]⟩, .string ⟨#[101, 114, 114, 111, 114, 32, 51]⟩] : List Value)[j]? := by simp
    rw [h4] at h2
    have h5 : ∀ v ∈ ([.string ⟨#[111, 107, 32, 48]⟩, .string S59, .string S63, .string S82, .string ⟨#[111, 107, 32, 55, 32, 52, 52]⟩, .string S87, .string S63, .string ⟨#[111, 107, 32, 55, 32, 52, 50]⟩, .string S59, .string S101, .string S104, .string S63, .string S63, .string S59, .string S101, .string ⟨#[111, 107, 32, 48]⟩, .string ⟨#[111, 107, 32, 48]⟩, .string ⟨#[101, 114, 114, 111, 114, 32, 51]⟩] : List Value), ∃ x, v = .string x := by
      intro v hv
      rw [← h3] at hv
      obtain ⟨y, _, rfl⟩ := List.mem_map.1 hv
      exact ⟨_, rfl⟩
    have hjl : j < ([.string ⟨#[111, 107, 32, 48]⟩, .string S59, .string S63, .string S82, .string ⟨#[111, 107, 32, 55, 32, 52, 52]⟩, .string S87, .string S63, .string ⟨#[111, 107, 32, 55, 32, 52, 50]⟩, .string S59, .string S101, .string S104, .string S63, .string S63, .string S59, .string S101, .string ⟨#[111, 107, 32, 48]⟩, .string ⟨#[111, 107, 32, 48]⟩, .string ⟨#[101, 114, 114, 111, 114, 32, 51]⟩] : List Value).length := by simpa using hj
    obtain ⟨x, hx⟩ := h5 _ (List.getElem_mem hjl)
    rw [List.getElem?_eq_getElem hjl, hx] at h1 h2
    exact ⟨x, h1, h2⟩
  clear own8 b8 hL9 B7 blk7 hWl
  go_wp2
  go_loopw [9] (fun t wr => ∃ j : Nat, j ≤ 18 ∧ t = .int .i64 j ∧ Hid (Below w8.heap.size w8 wr)) (fun t _ => 18 - (intOf t).toNat)
  case atStart => exact ⟨0, by omega, rfl, hide (Below.refl _ _)⟩
  case round =>
    obtain ⟨j, hj, rfl, hw⟩ := hrel
    by_cases hlt : j < 18
    · have g1 : decide ((j : Int) < 18) = true := by simp; omega
      obtain ⟨x, x1, x2⟩ := unhide hcl j hlt
      have c1 := cell_later (unhide hw) x1
      have c2 := cell_later (unhide hw) x2
      have hj2 : (j : Int) < 18 := by omega
      have hj3 : decide (j < 18) = true := by simpa using hlt
      clear x1 x2
      go_upto_region 14 with fail
      go_quiet (fail)
      go_wp2
      go_roundw
      case rel => exact ⟨j + 1, by omega, by go_num, hide (laterB (unhide hw) (drewN_below _ _))⟩
      case measure => simp [intOf]; omega
    · obtain rfl : j = 18 := by omega
      have B9 := hide (laterB (unhide B8) (unhide hw))
      clear hw hcl
      go_wp2
      go_ret
      exact ⟨rfl, unhide B9⟩
end Go.Proofs.YtioaehjppiodfaaGreatDoor
