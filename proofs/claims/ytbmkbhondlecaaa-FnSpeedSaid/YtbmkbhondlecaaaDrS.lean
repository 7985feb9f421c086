/-
  The model's draws for SpeedAt and Retime: their contracts: keys in a list of its own, whatever is in it, and numbers.
-/
import Derived.Test.YtbmkbhondlecaaaDrQ
namespace Go.Proofs.Ytbmkbhondlecaaa.Y
open Go.RowKit
open Go.Proofs.Ytbmkbhondlecaaa
set_option linter.unusedVariables false
set_option linter.unusedSimpArgs false

set_option maxHeartbeats 400000 in
theorem big_any (a : Option Addr) (len cap : Nat) (v : Bool) (w : World) (hv : decide (4096 < len) = v) :
    Calls Try.prog 10 #[.slice a len cap] w fun e w' => e = .returned (.bool v) ∧ w' = w := by
  subst hv
  go_enter Try.func10, Try.ntmps10
  go_wp2
  go_ret
  exact ⟨ret_bool (by rw [Bool.eq_iff_iff]; simp; omega), rfl⟩
/-- keys that were drawn -/
def DkP (w w' : World) (r c n : Nat) : Prop := n ≤ 400 ∧ w.heap.size ≤ r ∧ (∃ L : List Ky, L.length = n ∧ Own w' w.heap.size r n c L) ∧ Below w.heap.size w w'

set_option maxHeartbeats 3200000 in
theorem dsp_any (a : Option Addr) (len cap : Nat) (w : World) (hl2 : len ≤ 1000000) (hr : RdB w w.heap.size a len) :
    Calls Try.prog 11 #[.slice a len cap] w fun e w' => ∃ r c n t, e = .returned (.tuple #[.slice (some ⟨r, 0, none⟩) n c, .int .i64 t]) ∧ DkP w w' r c n := by
  have hl : len ≤ 9223372036854775807 := by omega
  have hr' := hide hr
  clear hr
  go_enter Try.func11, Try.ntmps11
  go_wp2_with fail
  refine (new_any a len cap w hl hl2 (unhide hr')).mono ?_
  rintro e w1 ⟨g, rfl, hB, hcu, hb1⟩
  have hcu' := hide hcu
  have hrd := hide ((unhide hr').grown (grown_below hb1) hB)
  have hb1' := hide hb1
  have hgl : g < w1.heap.size := hcu.lt
  clear hcu hb1 hr'
  go_wp2_with fail
  refine (dky_any w.heap.size g a len cap w1 hB hl (unhide hcu') (unhide hrd)).mono ?_
  rintro e w2 ⟨r, c, n, rfl, hn, hwr, hDR⟩
  obtain ⟨L, hLn, hO0⟩ := hDR.own
  have hO := hide hO0
  have hD := hide hDR.ds
  have hrg : r ≠ g := by omega
  clear hO0 hDR hcu' hrd
  go_wp2_with fail
  refine (below_any w.heap.size g a len cap 90 _ hB hl (unhide hD).cur (unhide hD).rd (by omega)).mono ?_
  rintro e w3 ⟨x, rfl, x0, x1, hcu, hgr⟩
  have hO := hide (own_kept (unhide hO) hgr (by omega))
  have hD := hide ((unhide hD).step hB hcu hgr)
  clear hcu hgr
  go_wp2_with fail
  refine (once_any w.heap.size g a len cap 4 _ hB hl (unhide hD).cur (unhide hD).rd (by omega)).mono ?_
  rintro e w4 ⟨v, rfl, hcu, hgr⟩
  have hO := hide (own_kept (unhide hO) hgr (by omega))
  have hD := hide ((unhide hD).step hB hcu hgr)
  clear hcu hgr
  cases v with
  | false =>
    go_wp2_with fail
    refine (once_any w.heap.size g a len cap 16 _ hB hl (unhide hD).cur (unhide hD).rd (by omega)).mono ?_
    rintro e w5 ⟨v5, rfl, hcu, hgr⟩
    have hO := hide (own_kept (unhide hO) hgr (by omega))
    have hD := hide ((unhide hD).step hB hcu hgr)
    clear hcu hgr
    cases v5 with
    | false =>
      have hfin : Hid (DkP w _ r c n) := hide ⟨hn, by have := (unhide hb1').size; omega, ⟨L, hLn, own_mono (unhide hO) (unhide hb1').size⟩, below_grown (unhide hb1') (unhide hD).gr hB⟩
      clear hO hD
      go_wp2
      exact bodyPost_ret (v := .tuple #[.slice (some ⟨r, 0, none⟩) n c, .int .i64 (x)]) (by simp [results, Try.results11, go_sem]) rfl ⟨r, c, n, x, rfl, unhide hfin⟩
    | true =>
      have hAl : Below w5.heap.size w5 (w5.alloc (.cells #[.int .i64 (-1), .int .i64 (10000000), .int .i64 (10000001)] 2)) := (Below.refl _ _).alloc (Nat.le_refl _) _
      have hO := hide (ownsRow_below (unhide hO) hAl)
      have hlg : w5.heap.size ≠ g := by have := (unhide hD).cur.lt; omega
      have hD := hide ((unhide hD).later hB hAl)
      have hl5 := fun k hk => lit3 (w := w5) (T := 2) (k := k) (a0 := -1) (a1 := 10000000) (a2 := 10000001) hk
      clear hAl
      go_wp2_with fail
      refine (below_any w.heap.size g a len cap 3 _ hB hl (unhide hD).cur (unhide hD).rd (by omega)).mono ?_
      rintro e w6 ⟨d, rfl, d0, d1, hcu, hgr⟩
      obtain ⟨md, rfl⟩ : ∃ m : Nat, d = m := ⟨d.toNat, by omega⟩
      obtain ⟨u, hu⟩ := hl5 md (by omega)
      have hu2 := grown_cell hgr hlg hu
      have hO := hide (own_kept (unhide hO) hgr (by omega))
      have hD := hide ((unhide hD).step hB hcu hgr)
      clear hcu hgr
      clear hu hl5 hlg
      have hfin : Hid (DkP w _ r c n) := hide ⟨hn, by have := (unhide hb1').size; omega, ⟨L, hLn, own_mono (unhide hO) (unhide hb1').size⟩, below_grown (unhide hb1') (unhide hD).gr hB⟩
      clear hO hD
      go_wp2
      exact bodyPost_ret (v := .tuple #[.slice (some ⟨r, 0, none⟩) n c, .int .i64 (u)]) (by simp [results, Try.results11, go_sem]) rfl ⟨r, c, n, u, rfl, unhide hfin⟩
  | true =>
    by_cases hn0 : 0 < n
    · have hnd : decide (0 < n) = true := by simpa using hn0
      go_wp2_with fail
      refine (below_any w.heap.size g a len cap (n : Int) _ hB hl (unhide hD).cur (unhide hD).rd (by omega)).mono ?_
      rintro e w7 ⟨p, rfl, p0, p1, hcu, hgr⟩
      have hO := hide (own_kept (unhide hO) hgr (by omega))
      have hD := hide ((unhide hD).step hB hcu hgr)
      clear hcu hgr
      obtain ⟨i, rfl⟩ : ∃ i : Nat, p = i := ⟨p.toNat, by omega⟩
      have hin : i < L.length := by omega
      have hinI : (i : Int) < (n : Int) := by omega
      obtain ⟨y, hy⟩ : ∃ y, w7.cell? ⟨r, i * 2, none⟩ = some (.int .i64 y) := ⟨_, (own_cells (List.getElem?_eq_getElem hin) (unhide hO)).1⟩
      go_wp2_with fail
      refine (once_any w.heap.size g a len cap 16 _ hB hl (unhide hD).cur (unhide hD).rd (by omega)).mono ?_
      rintro e w5 ⟨v5, rfl, hcu, hgr⟩
      have hO := hide (own_kept (unhide hO) hgr (by omega))
      have hD := hide ((unhide hD).step hB hcu hgr)
      clear hcu hgr
      cases v5 with
      | false =>
        have hfin : Hid (DkP w _ r c n) := hide ⟨hn, by have := (unhide hb1').size; omega, ⟨L, hLn, own_mono (unhide hO) (unhide hb1').size⟩, below_grown (unhide hb1') (unhide hD).gr hB⟩
        clear hO hD
        go_wp2
        exact bodyPost_ret (v := .tuple #[.slice (some ⟨r, 0, none⟩) n c, .int .i64 (y)]) (by simp [results, Try.results11, go_sem]) rfl ⟨r, c, n, y, rfl, unhide hfin⟩
      | true =>
        have hAl : Below w5.heap.size w5 (w5.alloc (.cells #[.int .i64 (-1), .int .i64 (10000000), .int .i64 (10000001)] 2)) := (Below.refl _ _).alloc (Nat.le_refl _) _
        have hO := hide (ownsRow_below (unhide hO) hAl)
        have hlg : w5.heap.size ≠ g := by have := (unhide hD).cur.lt; omega
        have hD := hide ((unhide hD).later hB hAl)
        have hl5 := fun k hk => lit3 (w := w5) (T := 2) (k := k) (a0 := -1) (a1 := 10000000) (a2 := 10000001) hk
        clear hAl
        go_wp2_with fail
        refine (below_any w.heap.size g a len cap 3 _ hB hl (unhide hD).cur (unhide hD).rd (by omega)).mono ?_
        rintro e w6 ⟨d, rfl, d0, d1, hcu, hgr⟩
        obtain ⟨md, rfl⟩ : ∃ m : Nat, d = m := ⟨d.toNat, by omega⟩
        obtain ⟨u, hu⟩ := hl5 md (by omega)
        have hu2 := grown_cell hgr hlg hu
        have hO := hide (own_kept (unhide hO) hgr (by omega))
        have hD := hide ((unhide hD).step hB hcu hgr)
        clear hcu hgr
        clear hu hl5 hlg
        have hfin : Hid (DkP w _ r c n) := hide ⟨hn, by have := (unhide hb1').size; omega, ⟨L, hLn, own_mono (unhide hO) (unhide hb1').size⟩, below_grown (unhide hb1') (unhide hD).gr hB⟩
        clear hO hD
        go_wp2
        exact bodyPost_ret (v := .tuple #[.slice (some ⟨r, 0, none⟩) n c, .int .i64 (u)]) (by simp [results, Try.results11, go_sem]) rfl ⟨r, c, n, u, rfl, unhide hfin⟩
    · have hnd : decide (0 < n) = false := by simpa using hn0
      have hLn' := hide hLn
      clear hn0 hLn
      go_wp2_with fail
      refine (once_any w.heap.size g a len cap 16 _ hB hl (unhide hD).cur (unhide hD).rd (by omega)).mono ?_
      rintro e w5 ⟨v5, rfl, hcu, hgr⟩
      have hO := hide (own_kept (unhide hO) hgr (by omega))
      have hD := hide ((unhide hD).step hB hcu hgr)
      clear hcu hgr
      cases v5 with
      | false =>
        have hfin : Hid (DkP w _ r c n) := hide ⟨hn, by have := (unhide hb1').size; omega, ⟨L, unhide hLn', own_mono (unhide hO) (unhide hb1').size⟩, below_grown (unhide hb1') (unhide hD).gr hB⟩
        clear hO hD
        go_wp2
        exact bodyPost_ret (v := .tuple #[.slice (some ⟨r, 0, none⟩) n c, .int .i64 (x)]) (by simp [results, Try.results11, go_sem]) rfl ⟨r, c, n, x, rfl, unhide hfin⟩
      | true =>
        have hAl : Below w5.heap.size w5 (w5.alloc (.cells #[.int .i64 (-1), .int .i64 (10000000), .int .i64 (10000001)] 2)) := (Below.refl _ _).alloc (Nat.le_refl _) _
        have hO := hide (ownsRow_below (unhide hO) hAl)
        have hlg : w5.heap.size ≠ g := by have := (unhide hD).cur.lt; omega
        have hD := hide ((unhide hD).later hB hAl)
        have hl5 := fun k hk => lit3 (w := w5) (T := 2) (k := k) (a0 := -1) (a1 := 10000000) (a2 := 10000001) hk
        clear hAl
        go_wp2_with fail
        refine (below_any w.heap.size g a len cap 3 _ hB hl (unhide hD).cur (unhide hD).rd (by omega)).mono ?_
        rintro e w6 ⟨d, rfl, d0, d1, hcu, hgr⟩
        obtain ⟨md, rfl⟩ : ∃ m : Nat, d = m := ⟨d.toNat, by omega⟩
        obtain ⟨u, hu⟩ := hl5 md (by omega)
        have hu2 := grown_cell hgr hlg hu
        have hO := hide (own_kept (unhide hO) hgr (by omega))
        have hD := hide ((unhide hD).step hB hcu hgr)
        clear hcu hgr
        clear hu hl5 hlg
        have hfin : Hid (DkP w _ r c n) := hide ⟨hn, by have := (unhide hb1').size; omega, ⟨L, unhide hLn', own_mono (unhide hO) (unhide hb1').size⟩, below_grown (unhide hb1') (unhide hD).gr hB⟩
        clear hO hD
        go_wp2
        exact bodyPost_ret (v := .tuple #[.slice (some ⟨r, 0, none⟩) n c, .int .i64 (u)]) (by simp [results, Try.results11, go_sem]) rfl ⟨r, c, n, u, rfl, unhide hfin⟩

set_option maxHeartbeats 3200000 in
theorem drt_any (a : Option Addr) (len cap : Nat) (w : World) (hl2 : len ≤ 1000000) (hr : RdB w w.heap.size a len) :
    Calls Try.prog 15 #[.slice a len cap] w fun e w' => ∃ r c n s q, e = .returned (.tuple #[.slice (some ⟨r, 0, none⟩) n c, .int .i64 s, .int .i64 q]) ∧ DkP w w' r c n := by
  have hl : len ≤ 9223372036854775807 := by omega
  have hr' := hide hr
  clear hr
  go_enter Try.func15, Try.ntmps15
  go_wp2_with fail
  refine (new_any a len cap w hl hl2 (unhide hr')).mono ?_
  rintro e w1 ⟨g, rfl, hB, hcu, hb1⟩
  have hcu' := hide hcu
  have hrd := hide ((unhide hr').grown (grown_below hb1) hB)
  have hb1' := hide hb1
  have hgl : g < w1.heap.size := hcu.lt
  clear hcu hb1 hr'
  go_wp2_with fail
  refine (dky_any w.heap.size g a len cap w1 hB hl (unhide hcu') (unhide hrd)).mono ?_
  rintro e w2 ⟨r, c, n, rfl, hn, hwr, hDR⟩
  obtain ⟨L, hLn, hO0⟩ := hDR.own
  have hO := hide hO0
  have hD := hide hDR.ds
  have hrg : r ≠ g := by omega
  clear hO0 hDR hcu' hrd
  go_wp2_with fail
  refine (below_any w.heap.size g a len cap 3 _ hB hl (unhide hD).cur (unhide hD).rd (by omega)).mono ?_
  rintro e w3 ⟨x, rfl, x0, x1, hcu, hgr⟩
  have hO := hide (own_kept (unhide hO) hgr (by omega))
  have hD := hide ((unhide hD).step hB hcu hgr)
  clear hcu hgr
  go_wp2_with fail
  refine (below_any w.heap.size g a len cap 90 _ hB hl (unhide hD).cur (unhide hD).rd (by omega)).mono ?_
  rintro e w4 ⟨y, rfl, y0, y1, hcu, hgr⟩
  have hO := hide (own_kept (unhide hO) hgr (by omega))
  have hD := hide ((unhide hD).step hB hcu hgr)
  clear hcu hgr
  go_wp2_with fail
  refine (once_any w.heap.size g a len cap 16 _ hB hl (unhide hD).cur (unhide hD).rd (by omega)).mono ?_
  rintro e w5 ⟨v, rfl, hcu, hgr⟩
  have hO := hide (own_kept (unhide hO) hgr (by omega))
  have hD := hide ((unhide hD).step hB hcu hgr)
  clear hcu hgr
  cases v with
  | false =>
    have hfin : Hid (DkP w _ r c n) := hide ⟨hn, by have := (unhide hb1').size; omega, ⟨L, hLn, own_mono (unhide hO) (unhide hb1').size⟩, below_grown (unhide hb1') (unhide hD).gr hB⟩
    clear hO hD
    go_wp2
    exact bodyPost_ret (v := .tuple #[.slice (some ⟨r, 0, none⟩) n c, .int .i64 (1 + x), .int .i64 (1 + y)]) (by simp [results, Try.results15, go_sem]) rfl ⟨r, c, n, 1 + x, 1 + y, rfl, unhide hfin⟩
  | true =>
    have hAl : Below w5.heap.size w5 (w5.alloc (.cells #[.int .i64 (0), .int .i64 (500), .int .i64 (501)] 2)) := (Below.refl _ _).alloc (Nat.le_refl _) _
    have hO := hide (ownsRow_below (unhide hO) hAl)
    have hlg : w5.heap.size ≠ g := by have := (unhide hD).cur.lt; omega
    have hD := hide ((unhide hD).later hB hAl)
    have hl5 := fun k hk => lit3 (w := w5) (T := 2) (k := k) (a0 := 0) (a1 := 500) (a2 := 501) hk
    clear hAl
    go_wp2_with fail
    refine (below_any w.heap.size g a len cap 3 _ hB hl (unhide hD).cur (unhide hD).rd (by omega)).mono ?_
    rintro e w6 ⟨d, rfl, d0, d1, hcu, hgr⟩
    obtain ⟨md, rfl⟩ : ∃ m : Nat, d = m := ⟨d.toNat, by omega⟩
    obtain ⟨u, hu⟩ := hl5 md (by omega)
    have hu2 := grown_cell hgr hlg hu
    have hO := hide (own_kept (unhide hO) hgr (by omega))
    have hD := hide ((unhide hD).step hB hcu hgr)
    clear hcu hgr
    clear hu hl5 hlg
    have hAl : Below w6.heap.size w6 (w6.alloc (.cells #[.int .i64 (0), .int .i64 (1), .int .i64 (2000), .int .i64 (2001)] 2)) := (Below.refl _ _).alloc (Nat.le_refl _) _
    have hO := hide (ownsRow_below (unhide hO) hAl)
    have hlg : w6.heap.size ≠ g := by have := (unhide hD).cur.lt; omega
    have hD := hide ((unhide hD).later hB hAl)
    have hl5 := fun k hk => lit4 (w := w6) (T := 2) (k := k) (a0 := 0) (a1 := 1) (a2 := 2000) (a3 := 2001) hk
    clear hAl
    go_wp2_with fail
    refine (below_any w.heap.size g a len cap 4 _ hB hl (unhide hD).cur (unhide hD).rd (by omega)).mono ?_
    rintro e w7 ⟨p, rfl, p0, p1, hcu, hgr⟩
    obtain ⟨mp, rfl⟩ : ∃ m : Nat, p = m := ⟨p.toNat, by omega⟩
    obtain ⟨z, hz⟩ := hl5 mp (by omega)
    have hz2 := grown_cell hgr hlg hz
    have hO := hide (own_kept (unhide hO) hgr (by omega))
    have hD := hide ((unhide hD).step hB hcu hgr)
    clear hcu hgr
    clear hz hl5 hlg
    have hfin : Hid (DkP w _ r c n) := hide ⟨hn, by have := (unhide hb1').size; omega, ⟨L, hLn, own_mono (unhide hO) (unhide hb1').size⟩, below_grown (unhide hb1') (unhide hD).gr hB⟩
    clear hO hD
    go_wp2
    exact bodyPost_ret (v := .tuple #[.slice (some ⟨r, 0, none⟩) n c, .int .i64 (u), .int .i64 (z)]) (by simp [results, Try.results15, go_sem]) rfl ⟨r, c, n, u, z, rfl, unhide hfin⟩
end Go.Proofs.Ytbmkbhondlecaaa.Y
