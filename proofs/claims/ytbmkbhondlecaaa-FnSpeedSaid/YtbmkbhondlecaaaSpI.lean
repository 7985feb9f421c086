/-
  Contracts of what the program looks up among keys: the first key that is not ahead of a frame, and what is seen between two keys; nothing that was there is written.
-/
import Derived.Test.YtbmkbhondlecaaaSpS
namespace Go.Proofs.Ytbmkbhondlecaaa.Y
open Go.RowKit
open Go.Proofs.Ytbmkbhondlecaaa
set_option linter.unusedVariables false
set_option linter.unusedSimpArgs false

set_option maxHeartbeats 400000 in
theorem ge_any (s i t : Int) (v : Bool) (P : Nat) (w : World) (hP : P < w.heap.size) (hc : w.cell? ⟨P, 0, none⟩ = some (.int .i64 t)) (hv : decide (t ≤ s) = v) :
    Calls Try.prog 60 #[.agg #[.int .i64 s, .int .i64 i], .pointer (some ⟨P, 0, none⟩)] w fun e w' => e = .returned (.bool v) ∧ Below w.heap.size w w' := by
  subst hv
  have hc2 : (w.alloc (.cells #[.int .i64 s, .int .i64 i] 31)).cell? ⟨P, 0, none⟩ = some (.int .i64 t) := cell_later ((Below.refl w.heap.size w).alloc (Nat.le_refl _) _) hc
  have hne : P ≠ w.heap.size := by omega
  go_enter Try.func60, Try.ntmps60
  go_wp2
  go_ret
  exact ⟨rfl, (Below.refl _ _).alloc (Nat.le_refl _) _⟩

/-- the first key that is not ahead of t -/
def IxR (l : List Ky) (t r : Int) : Prop := (r = -1 ∧ ∀ j x, j < l.length → l[j]? = some x → x.1 < t) ∨ ∃ (k : Nat) (x : Ky), r = k ∧ l[k]? = some x ∧ t ≤ x.1 ∧ ∀ j y, j < k → l[j]? = some y → y.1 < t

set_option maxHeartbeats 1600000 in
theorem idx_any (a : Option Addr) (cap : Nat) (l : List Ky) (t : Int) (P : Nat) (w : World) (hl : l.length ≤ 100) (hk : Kys w a l) (hP : P < w.heap.size) (hc : w.cell? ⟨P, 0, none⟩ = some (.int .i64 t)) :
    Calls Try.prog 59 #[.slice a l.length cap, .func (.func 60) #[] #[.pointer (some ⟨P, 0, none⟩)]] w fun e w' => ∃ r, e = .returned (.int .i64 r) ∧ IxR l t r ∧ Below w.heap.size w w' := by
  have hk' := hide hk
  have hc' := hide hc
  clear hk hc
  go_enter Try.func59, Try.ntmps59
  go_wp2
  go_loopw [8] (fun z wr => ∃ k : Nat, k ≤ l.length ∧ z = .int .i64 k ∧ Hid (∀ j x, j < k → l[j]? = some x → x.1 < t) ∧ Hid (Below w.heap.size w wr)) (fun z _ => l.length - (intOf z).toNat)
  case atStart => exact ⟨0, by omega, rfl, hide (fun j x h => by omega), hide (Below.refl _ _)⟩
  case round =>
    obtain ⟨k, hk, rfl, hA, hw⟩ := hrel
    by_cases hlt : k < l.length
    · obtain ⟨b, o, s, i, rfl, hx, hbl, c0, c1⟩ := kys_at (unhide hk') (unhide hw) hlt
      have hx' := hide hx
      clear hx hbl
      have hcw := hide (cell_later (unhide hw) (unhide hc'))
      have hPw : P < wr.heap.size := Nat.lt_of_lt_of_le hP (unhide hw).size
      by_cases hge : t ≤ s
      · have hd := hide (decide_eq_true hge)
        have hres := hide (show IxR l t (k : Int) from Or.inr ⟨k, (s, i), rfl, unhide hx', hge, unhide hA⟩)
        clear hge hA
        go_wp2_with fail
        refine (ge_any s i t true P _ hPw (unhide hcw) (unhide hd)).mono ?_
        rintro e w1 ⟨rfl, hb⟩
        go_wp2
        go_ret
        exact ⟨_, rfl, unhide hres, laterB (unhide hw) hb⟩
      · have hd := hide (decide_eq_false hge)
        have hnew : Hid (∀ j x, j < k + 1 → l[j]? = some x → x.1 < t) := hide (fun j x hj hx => by
          by_cases e : j = k
          · subst e
            rw [unhide hx'] at hx
            injection hx with hx
            subst hx
            simp only
            omega
          · exact unhide hA j x (by omega) hx)
        clear hge hA
        go_wp2_with fail
        refine (ge_any s i t false P _ hPw (unhide hcw) (unhide hd)).mono ?_
        rintro e w1 ⟨rfl, hb⟩
        have hw1 := hide (laterB (unhide hw) hb)
        clear hb hw
        go_wp2
        go_roundw
        case rel => exact ⟨k + 1, by omega, by go_num, hnew, hw1⟩
        case measure => simp [intOf]; omega
    · have hke : k = l.length := by omega
      have hres := hide (show IxR l t (-1) from Or.inl ⟨rfl, by have := unhide hA; rw [hke] at this; exact this⟩)
      clear hA
      go_wp2
      go_ret
      exact ⟨_, rfl, unhide hres, unhide hw⟩

set_option maxHeartbeats 1600000 in
theorem ibtw_any (s1 i1 s2 i2 t : Int) (r : Int × Int × Int) (w : World) (h1 : KOk (s1, i1)) (h2 : KOk (s2, i2)) (h3 : s1 < t) (h4 : t < s2) (hr : btw (s1, i1) (s2, i2) t = r) :
    Calls Try.prog 61 #[.agg #[.int .i64 s1, .int .i64 i1], .agg #[.int .i64 s2, .int .i64 i2], .int .i64 t] w fun e w' => e = .returned (.agg #[.int .i64 r.1, .int .i64 r.2.1, .int .i64 r.2.2]) ∧ Below w.heap.size w w' := by
  obtain ⟨⟨p0, p1⟩, p2, p3⟩ := h1
  obtain ⟨⟨q0, q1⟩, q2, q3⟩ := h2
  simp only at p0 p1 p2 p3 q0 q1 q2 q3
  obtain ⟨u, hu⟩ : ∃ u, u = t - s1 := ⟨_, rfl⟩
  obtain ⟨v, hv⟩ : ∃ v, v = i2 - i1 := ⟨_, rfl⟩
  obtain ⟨dd, hdd⟩ : ∃ dd, dd = s2 - s1 := ⟨_, rfl⟩
  obtain ⟨X, hX⟩ : ∃ X, X = u * v := ⟨_, rfl⟩
  have hXb := mul_bd (u := u) (v := v) (by omega) (by omega)
  rw [← hX] at hXb
  obtain ⟨q, hq⟩ : ∃ q, X / dd = q := ⟨_, rfl⟩
  obtain ⟨m, hm⟩ : ∃ m, X % dd = m := ⟨_, rfl⟩
  have hqb := div_bd (x := X) (d := dd) (by omega) hXb
  rw [hq] at hqb
  have w1 : IntKind.i64.wrap (t - s1) = u := by rw [IntKind.wrap_i64]; omega
  have w2 : IntKind.i64.wrap (i2 - i1) = v := by rw [IntKind.wrap_i64]; omega
  have w3 : IntKind.i64.wrap (u * v) = X := by rw [← hX, IntKind.wrap_i64]; omega
  have w4 : IntKind.i64.wrap (s2 - s1) = dd := by rw [IntKind.wrap_i64]; omega
  have w5 : IntKind.i64.wrap (i1 + q) = i1 + q := by rw [IntKind.wrap_i64]; omega
  have hfin : r = (i1 + q, m, dd) := by rw [← hr]; unfold btw; simp only; rw [← hu, ← hv, ← hdd, ← hX, hq, hm]
  subst hfin
  have hd1 : 1 ≤ dd := by omega
  have hd9 : dd ≤ 100000000000000 := by omega
  have hq' := hide hq
  have hm' := hide hm
  have hXb' := hide hXb
  clear hq hm hXb hqb hX hu hv hdd hr
  go_enter Try.func61, Try.ntmps61
  go_wp2_with fail
  refine (idiv_any X dd q m _ hd1 hd9 (unhide hXb') (unhide hq') (unhide hm')).mono ?_
  rintro e w9 ⟨rfl, rfl⟩
  go_wp2
  refine bodyPost_ret (v := .agg #[.int .i64 (i1 + q), .int .i64 m, .int .i64 dd]) (by simp [results, Try.results61, go_sem]) rfl ⟨rfl, (((Below.refl _ _).alloc (Nat.le_refl _) _).alloc (by simp) _).alloc (by simp; omega) _⟩
end Go.Proofs.Ytbmkbhondlecaaa.Y
