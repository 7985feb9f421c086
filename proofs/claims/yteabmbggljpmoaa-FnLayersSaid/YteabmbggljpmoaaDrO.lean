/-
  Contract of the model's draw of two pixels, of bytes that came in: it answers; nothing that was there is written.
-/
import Derived.Test.YteabmbggljpmoaaDrY
namespace Go.Proofs.Yteabmbggljpmoaa
open Go.RowKit
set_option linter.unusedVariables false
set_option linter.unusedSimpArgs false

set_option maxHeartbeats 6400000 in
theorem dov_any {W : World} (a : Option Addr) (len cap : Nat) (hl : len ≤ 4096) (hr : RdB W W.heap.size a len) : Calls Try.prog 15 #[.slice a len cap] W fun e w' => ∃ x y z u x' y' z' u', e = .returned (.tuple #[ag4 x y z u, ag4 x' y' z' u']) ∧ Below W.heap.size W w' := by
  have hl9 : len ≤ 9223372036854775807 := by omega
  obtain ⟨V, hV⟩ : ∃ V, W.alloc (.cells #[.int .i64 0, .int .i64 0, .int .i64 0, .int .i64 0] 25) = V := ⟨_, rfl⟩
  have hal : Below W.heap.size W V := by rw [← hV]; exact (Below.refl _ _).alloc (Nat.le_refl _) _
  have hsz : V.heap.size = W.heap.size + 1 := by rw [← hV]; simp
  have hal2 : Below V.heap.size V (V.alloc (.cells #[.int .i64 0, .int .i64 0, .int .i64 0, .int .i64 0] 25)) := (Below.refl _ _).alloc (Nat.le_refl _) _
  have hE0 := hide (laterB hal hal2)
  have hr1 : Hid (RdB (V.alloc (.cells #[.int .i64 0, .int .i64 0, .int .i64 0, .int .i64 0] 25)) W.heap.size a len) := hide (hr.belowB (unhide hE0) (Nat.le_refl _))
  have hr2 : Hid (RdB (V.alloc (.cells #[.int .i64 0, .int .i64 0, .int .i64 0, .int .i64 0] 25)) (V.alloc (.cells #[.int .i64 0, .int .i64 0, .int .i64 0, .int .i64 0] 25)).heap.size a len) := hide ((unhide hr1).up (unhide hE0).size)
  have hR0 : Hid (Bx (V.alloc (.cells #[.int .i64 0, .int .i64 0, .int .i64 0, .int .i64 0] 25)) W.heap.size 0 0 0 0) := hide (by
    have h1 : Bx V W.heap.size 0 0 0 0 := by rw [← hV]; exact Bx.new _ _ _ _ _ _
    exact h1.below hal2)
  have hQ0 : Hid (Bx (V.alloc (.cells #[.int .i64 0, .int .i64 0, .int .i64 0, .int .i64 0] 25)) (W.heap.size + 1) 0 0 0 0) := hide (by rw [← hsz]; exact Bx.new _ _ _ _ _ _)
  have hV' := hide hV
  clear hr hal hal2
  go_enter Try.func15, Try.ntmps15
  go_wp2_with fail
  clear hV hV'
  generalize hX : V.alloc (.cells #[.int .i64 0, .int .i64 0, .int .i64 0, .int .i64 0] 25) = X at *
  have hX' := hide hX
  clear hX
  refine (new_any a len cap _ hl9 (by omega) (unhide hr2)).mono ?_
  rintro e w1 ⟨g, rfl, hg, hc, hb⟩
  have hXs : W.heap.size + 2 ≤ X.heap.size := by have := (unhide hQ0).lt; omega
  have C1 := hide hc
  have R1 := hide ((unhide hR0).below hb)
  have Q1 := hide ((unhide hQ0).below hb)
  have D1 := hide ((unhide hr1).belowB hb (by omega))
  have E1 := hide ((unhide hE0).trans (hb.mono (by omega)))
  clear hc hb hr1 hr2 hR0 hQ0 hE0
  go_wp2_with fail
  refine (dpx_any W.heap.size g a len cap _ (by omega) (unhide E1).size hl9 (unhide C1) (unhide D1)).mono ?_
  rintro e w2 ⟨x, y, z, u, rfl, hD⟩
  have C2 := hide hD.cur
  have R2 := hide ((unhide R1).grown hD.gr (by omega))
  have Q2 := hide ((unhide Q1).grown hD.gr (by omega))
  have E2 := hide (below_grown (unhide E1) hD.gr (by omega))
  have D2 := hide hD.rd
  clear hD C1 R1 Q1 E1 D1
  have hgl := (unhide C2).lt
  have hal : Below w2.heap.size w2 (w2.alloc (.cells #[.int .i64 x, .int .i64 y, .int .i64 z, .int .i64 u] 25)) := (Below.refl _ _).alloc (Nat.le_refl _) _
  have C3 := hide ((unhide C2).below hal)
  have R3 := hide ((unhide R2).below hal)
  have Q3 := hide ((unhide Q2).below hal)
  have E3 := hide (laterB (unhide E2) hal)
  have D3 := hide ((unhide D2).belowB hal (by omega))
  have N3 : Hid (Bx (w2.alloc (.cells #[.int .i64 x, .int .i64 y, .int .i64 z, .int .i64 u] 25)) w2.heap.size x y z u) := hide (Bx.new _ _ _ _ _ _)
  have hnb : w2.heap.size ≠ g := by omega
  clear C2 R2 Q2 E2 D2 hal
  go_wp2_with fail
  generalize hY : w2.alloc (.cells #[.int .i64 x, .int .i64 y, .int .i64 z, .int .i64 u] 25) = Y at *
  have hYs : w2.heap.size < Y.heap.size := (unhide N3).lt
  generalize w2.heap.size = bn at *
  clear hY
  have C4 := hide ((unhide C3).below ((Below.refl _ _).drew))
  have hYd : Below Y.heap.size Y Y.drew := (Below.refl _ _).drew
  have D4 := hide ((unhide D3).belowB hYd (by have := (unhide E3).size; omega))
  have E4 := hide ((unhide E3).drew)
  have N4 := hide ((unhide N3).below hYd)
  have R4 := hide ((unhide R3).below hYd)
  have Q4 := hide ((unhide Q3).below hYd)
  have n0 := (unhide N3).c0
  have n1 := (unhide N3).c1
  have n2 := (unhide N3).c2
  have n3 := (unhide N3).c3
  clear hYd
  go_region_with ((
    go_at_call 43
    refine (dpx_any W.heap.size g a len cap _ (by omega) (unhide E4).size hl9 (unhide C4) (unhide D4)).mono ?_
    rintro e w5 ⟨x', y', z', u', rfl, hD⟩
    obtain ⟨m0, m1, m2, m3, _, _, _, _⟩ := (unhide N4).grown hD.gr hnb
    obtain ⟨r0, r1, r2, r3, q0, q1, q2, q3⟩ := (unhide R4).grown hD.gr (by omega)
    obtain ⟨s0, s1, s2, s3, t0, t1, t2, t3⟩ := (unhide Q4).grown hD.gr (by omega)
    have E5 := hide (below_grown (unhide E4) hD.gr (by omega))
    have hne : W.heap.size ≠ W.heap.size + 1 := by omega
    clear hD))
  all_goals (
    go_wp2
    exact bodyPost_ret (v := .tuple #[ag4 x y z u, ag4 x' y' z' u']) (by simp [results, Try.results15, go_sem, r0, r1, r2, r3, s0, s1, s2, s3]) rfl ⟨_, _, _, _, _, _, _, _, rfl, set4_below (set4_below (unhide E5) (Nat.le_refl _)) (by omega)⟩)
end Go.Proofs.Yteabmbggljpmoaa
