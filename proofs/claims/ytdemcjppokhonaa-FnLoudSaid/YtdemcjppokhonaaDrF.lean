/-
  Contracts of the model's draws of floats and of lists of them, over a cursor on bytes that came in: each answers; a list is new memory, and what was there but for the cursor stays.
-/
import Derived.Test.YtdemcjppokhonaaDrC
import Derived.Test.YtdemcjppokhonaaMx
namespace Go.Proofs.Ytdemcjppokhonaa
open Go.RowKit
set_option linter.unusedVariables false
set_option linter.unusedSimpArgs false

theorem from_any (B g : Nat) (a : Option Addr) (len cap : Nat) (lo hi : Int) (w : World) (hB : B ≤ g) (hl : len ≤ 9223372036854775807) (hc : CurAt w g a len cap) (hr : RdB w B a len) (h0 : -100 ≤ lo) (h1 : hi ≤ 100) (h2 : lo ≤ hi) :
    Calls Try.prog 45 #[.pointer (some ⟨g, 0, none⟩), .int .i64 lo, .int .i64 hi] w fun e w' => ∃ x, e = .returned (.int .i64 x) ∧ CurAt w' g a len cap ∧ w.grownBy w' (some g) := by
  have hc' := hide hc
  have hr' := hide hr
  clear hc hr
  go_enter Try.func45, Try.ntmps45
  go_wp2_with fail
  refine (below_any B g a len cap (hi - lo + 1) _ hB hl (unhide hc') (unhide hr') (by omega)).mono ?_
  rintro e w1 ⟨x, rfl, x0, x1, k1, g1⟩
  go_wp2
  go_ret
  exact ⟨_, rfl, k1, g1⟩
theorem zero_any (w : World) : Calls Try.prog 52 #[] w fun e w' => e = .returned (.float .f64 0) ∧ w' = w := by
  go_enter Try.func52, Try.ntmps52
  go_wp2
  go_ret
  exact ⟨rfl, rfl⟩
theorem DS.drew {w wr : World} {B g : Nat} {a : Option Addr} {len cap : Nat} (h : DS w B g a len cap wr) (hB : B ≤ g) (n : Nat) : DS w B g a len cap (wr.drewN n) := h.later hB (below_drew n)
theorem litF {w : World} {T : TypeId} {k : Nat} {cs : List Nat} (hk : k < cs.length) : ∃ v : Nat, (w.alloc (.cells (cs.map fl).toArray T)).cell? ⟨w.heap.size, k, none⟩ = some (.float .f64 v) := by
  refine ⟨cs[k], ?_⟩
  have := World.news_of_block (heap_alloc_new w (.cells (cs.map fl).toArray T)) k (fl cs[k]) (by simp [hk])
  rw [Addr.add_lit, Nat.zero_add] at this
  exact this

@[go_sem] theorem unary_negf (k : FloatKind) (b : Nat) : Op.unary .neg (.float k b) = pure (.float k (Op.negFloat k b)) := rfl
theorem below9 {w w2 : World} {B g : Nat} {a : Option Addr} {len cap : Nat} (n : Nat) (cs : List Nat) (hcs : cs.length = 9) (hB : B ≤ g) (hl : len ≤ 9223372036854775807) (S2 : DS w B g a len cap w2) :
    Calls Try.prog 41 #[.pointer (some ⟨g, 0, none⟩), .int .i64 9] ((w2.drewN n).alloc (.cells (cs.map fl).toArray 25)) fun e w3 => ∃ (m v : Nat), e = .returned (.int .i64 m) ∧ m < 9 ∧ w3.cell? ⟨w2.heap.size, m, none⟩ = some (.float .f64 v) ∧ DS w B g a len cap w3 := by
  have Sd := (S2.drew hB n).later hB ((Below.refl _ _).alloc (Nat.le_refl _) (.cells (cs.map fl).toArray 25))
  have hlt := S2.cur.lt
  refine (below_any B g a len cap 9 _ hB hl Sd.cur Sd.rd (by omega)).mono ?_
  rintro e w3 ⟨i, rfl, i0, i1, k3, g3⟩
  obtain ⟨m, rfl⟩ : ∃ m : Nat, i = m := ⟨i.toNat, by omega⟩
  obtain ⟨v, hv⟩ := litF (w := w2.drewN n) (T := 25) (k := m) (cs := cs) (by omega)
  exact ⟨m, v, rfl, by omega, grown_cell (b := w2.heap.size) g3 (by omega) hv, Sd.step hB k3 g3⟩

/-- a float that was drawn -/
def DrF (w : World) (g : Nat) (a : Option Addr) (len cap : Nat) (e : Ending) (w' : World) : Prop := ∃ x, e = .returned (.float .f64 x) ∧ CurAt w' g a len cap ∧ w.grownBy w' (some g)

set_option maxHeartbeats 6400000 in
theorem dfl_any (B g : Nat) (a : Option Addr) (len cap : Nat) (w : World) (hB : B ≤ g) (hl : len ≤ 9223372036854775807) (hc : CurAt w g a len cap) (hr : RdB w B a len) :
    Calls Try.prog 37 #[.pointer (some ⟨g, 0, none⟩)] w (DrF w g a len cap) := by
  have S0 := hide (show DS w B g a len cap w from ⟨hc, hr, World.grownBy.refl _ _⟩)
  clear hc hr
  go_enter Try.func37, Try.ntmps37
  go_wp2_with fail
  refine (from_any B g a len cap (-20) 20 _ hB hl (unhide S0).cur (unhide S0).rd (by omega) (by omega) (by omega)).mono ?_
  rintro e w1 ⟨x, rfl, k1, g1⟩
  have S1 := hide ((unhide S0).step hB k1 g1)
  clear S0 k1 g1
  go_wp2_with fail
  refine (zero_any _).mono ?_
  rintro e wz ⟨rfl, hwz⟩
  have hwz := hwz.symm
  subst hwz
  go_wp2_with fail
  refine (below_any B g a len cap 12 _ hB hl (unhide S1).cur (unhide S1).rd (by omega)).mono ?_
  rintro e w2 ⟨d, rfl, d0, d1, k2, g2⟩
  have S2 := hide ((unhide S1).step hB k2 g2)
  clear S1 k2 g2
  rcases (show d = 0 ∨ d = 1 ∨ d = 2 ∨ d = 3 ∨ d = 4 ∨ d = 5 ∨ d = 6 ∨ 7 ≤ d by omega) with rfl | rfl | rfl | rfl | rfl | rfl | rfl | hd
  · go_wp2
    go_ret
    exact ⟨_, rfl, ((unhide S2).drew hB _).cur, ((unhide S2).drew hB _).gr⟩
  · go_wp2
    go_ret
    exact ⟨_, rfl, ((unhide S2).drew hB _).cur, ((unhide S2).drew hB _).gr⟩
  · go_wp2
    go_ret
    exact ⟨_, rfl, ((unhide S2).drew hB _).cur, ((unhide S2).drew hB _).gr⟩
  · go_wp2
    go_ret
    exact ⟨_, rfl, ((unhide S2).drew hB _).cur, ((unhide S2).drew hB _).gr⟩
  · go_wp2_with fail
    refine (below9 _ [_, _, _, _, _, _, _, _, _] rfl hB hl (unhide S2)).mono ?_
    rintro e w3 ⟨m, v, rfl, hm9, hcv, S3⟩
    have S3 := hide S3
    clear S2
    go_wp2
    go_ret
    exact ⟨_, rfl, (unhide S3).cur, (unhide S3).gr⟩
  · go_wp2_with fail
    refine (below_any B g a len cap 40 _ hB hl (unhide S2).cur (unhide S2).rd (by omega)).mono ?_
    rintro e w3 ⟨i, rfl, i0, i1, k3, g3⟩
    have S3 := hide ((unhide S2).step hB k3 g3)
    obtain ⟨m, rfl⟩ : ∃ m : Nat, i = m := ⟨i.toNat, by omega⟩
    clear S2 k3 g3
    go_wp2
    go_loopw [3, 5] (fun s t wr => ∃ (k y : Nat), k ≤ 40 ∧ t = .int .i64 k ∧ s = .float .f64 y ∧ Hid (DS w B g a len cap wr)) (fun _ t _ => (intOf t).toNat)
    case atStart => exact ⟨m, _, by omega, rfl, rfl, S3⟩
    case round =>
      clear S3
      obtain ⟨k, y, hk, rfl, rfl, hS⟩ := hrel
      by_cases hk0 : 0 < k
      · go_wp2
        go_roundw
        case rel => exact ⟨k - 1, _, by omega, by go_num, rfl, hide ((unhide hS).drew hB _)⟩
        case measure => simp [intOf]; omega
      · have hk1 : k = 0 := by omega
        subst hk1
        go_wp2
        go_ret
        exact ⟨_, rfl, (unhide hS).cur, (unhide hS).gr⟩
  · go_wp2_with fail
    refine (below_any B g a len cap 1073741824 _ hB hl (unhide S2).cur (unhide S2).rd (by omega)).mono ?_
    rintro e w3 ⟨i, rfl, i0, i1, k3, g3⟩
    have S3 := hide ((unhide S2).step hB k3 g3)
    clear S2 k3 g3
    go_wp2_with fail
    have S3d := hide ((unhide S3).drew hB (fd .mul (floatOfInt .f64 i) 4742290407621132288))
    refine (below_any B g a len cap 1073741824 _ hB hl (unhide S3d).cur (unhide S3d).rd (by omega)).mono ?_
    rintro e w4 ⟨j, rfl, j0, j1, k4, g4⟩
    have S4 := hide ((unhide S3d).step hB k4 g4)
    clear S3 S3d k4 g4
    go_wp2
    go_ret
    exact ⟨_, rfl, ((unhide S4).drew hB _).cur, ((unhide S4).drew hB _).gr⟩
  · have e0 : (d == 0) = false := beq_eq_false_iff_ne.2 (by omega)
    have e1 : (d == 1) = false := beq_eq_false_iff_ne.2 (by omega)
    have e2 : (d == 2) = false := beq_eq_false_iff_ne.2 (by omega)
    have e3 : (d == 3) = false := beq_eq_false_iff_ne.2 (by omega)
    have e4 : (d == 4) = false := beq_eq_false_iff_ne.2 (by omega)
    have e5 : (d == 5) = false := beq_eq_false_iff_ne.2 (by omega)
    have e6 : (d == 6) = false := beq_eq_false_iff_ne.2 (by omega)
    go_wp2
    go_ret
    exact ⟨_, rfl, (unhide S2).cur, (unhide S2).gr⟩

end Go.Proofs.Ytdemcjppokhonaa
