/-
  Contracts of taking a part of a track, the model's and the program's; the answer is new memory, nothing that was there is written.
-/
import Derived.Test.YtfcjdempigoiiaaJn
namespace Go.Proofs.Ytfcjdempigoiiaa
open Go.RowKit
set_option linter.unusedVariables false
set_option linter.unusedSimpArgs false

set_option maxHeartbeats 400000 in
theorem max_any (a b v : Int) (w : World) (hv : max a b = v) : Calls Try.prog 56 #[.int .i64 a, .int .i64 b] w fun e w' => e = .returned (.int .i64 v) ∧ w' = w := by
  subst hv
  by_cases h : b < a
  · go_enter Try.func56, Try.ntmps56
    go_wp2
    go_ret
    exact ⟨ret_int (by omega), rfl⟩
  · have h' : decide (b < a) = false := by simpa using h
    go_enter Try.func56, Try.ntmps56
    go_wp2
    go_ret
    exact ⟨ret_int (by omega), rfl⟩
set_option maxHeartbeats 400000 in
theorem min_any (a b v : Int) (w : World) (hv : min a b = v) : Calls Try.prog 31 #[.int .i64 a, .int .i64 b] w fun e w' => e = .returned (.int .i64 v) ∧ w' = w := by
  subst hv
  by_cases h : a < b
  · go_enter Try.func31, Try.ntmps31
    go_wp2
    go_ret
    exact ⟨ret_int (by omega), rfl⟩
  · have h' : decide (a < b) = false := by simpa using h
    go_enter Try.func31, Try.ntmps31
    go_wp2
    go_ret
    exact ⟨ret_int (by omega), rfl⟩

theorem wpList_kM {T : TypeId} (hT : Try.prog.underlying T = some (.slice 63)) {ops : Array Oper} {rest : List Oper} {o : Oper} {a : Act} {Q : Exit → Act → World → Prop} {X wr : World} {B C g n cap : Nat} {v1 v2 v3 : Int} {L : List Kl} (hgd : o.guard = none) (s x : Operand) (ho : o.op = .call { callee := .builtin .append, args := #[s, x], argTypes := #[T, T] })
    (hs : a.eval s = .slice (some ⟨g, 0, none⟩) n cap) (hown : Own wr B g n cap L) (hX : Below C wr X) (hg : g < C) (E : Nat) (hE : X.heap.size = E) (hx : a.eval x = .slice (some ⟨E, 0, none⟩) 1 1) (hl : n ≤ 1000000) (hB : B ≤ wr.heap.size) (hBC : B ≤ C)
    (h : ∀ g' cap' w', Own w' B g' (n + 1) cap' (L ++ [(v1, v2, v3)]) → Below B wr w' → B ≤ g' → g' < w'.heap.size → (∀ b i, b < E → b ≠ g → w'.cell? ⟨b, i, none⟩ = (X.alloc (.cells #[.int .i64 v1, .int .i64 v2, .int .i64 v3] 63)).cell? ⟨b, i, none⟩) → wpList Try.prog ops Q rest (a.put o.dst (.slice (some ⟨g', 0, none⟩) (n + 1) cap')) w') : wpList Try.prog ops Q (o :: rest) a (X.alloc (.cells #[.int .i64 v1, .int .i64 v2, .int .i64 v3] 63)) := by
  subst hE
  have hb2 : Below B wr (X.alloc (.cells #[.int .i64 v1, .int .i64 v2, .int .i64 v3] 63)) := (hX.mono hBC).alloc (Nat.le_trans hB hX.size) _
  have hown1 := own_blk (own_blk hown hX hg) ((Below.refl X.heap.size X).alloc (Nat.le_refl _) (.cells #[.int .i64 v1, .int .i64 v2, .int .i64 v3] 63)) (own_lt (own_blk hown hX hg))
  obtain ⟨i0, hi, hz0, hz1, hz2⟩ := info_parts info44
  have hBg : B ≤ g := (hown.lt g rfl).1
  have hBs : B ≤ (X.alloc (.cells #[.int .i64 v1, .int .i64 v2, .int .i64 v3] 63)).heap.size := Nat.le_trans hB hb2.size
  refine wpList_append_lies _ hgd s x T ho B 63 i0 (.agg #[.int .i64 0, .int .i64 0, .int .i64 0]) 3 24 hT hi hz0 hz1 hz2 rfl (by decide) _ n (flK L) hs hown1 ⟨X.heap.size, 0, none⟩ 1 1 [iv v1, iv v2, iv v3] hx rfl (K_news (c := (v1, v2, v3)) (heap_alloc_new X _)) (by intro u hu; simp at hu; rcases hu with rfl | rfl | rfl <;> rfl) (by decide) (by unfold maxLen; omega) (by omega) hBs _ rfl ?_
  intro g' cap' w' h1 h2 h3 h4
  have ho' : Own w' B g' (n + 1) cap' (L ++ [(v1, v2, v3)]) := by show World.ownsRow _ _ _ _ _ _ _; rw [flK_append]; exact h1
  refine h g' cap' w' ho' ?_ (own_ge ho') (own_lt ho') ?_
  · exact hb2.trans ((Below.refl _ _).grown h2 hBs (fun k hk => by simp [Value.ownBlock] at hk; omega))
  · intro b i hb hne
    exact World.cell?_of_block (a := ⟨b, i, none⟩) (h2.block b (by simp; omega) (by simp [Value.ownBlock]; omega))

theorem pt_no {s i n f t q A B : Int} (hA : A = max f q) (hB : B = min t (q + n)) (h : ¬ A < B) : ptOne (s, i, n) (f - q) (t - q) = [] := by
  unfold ptOne
  rw [if_neg (by simp only; omega)]
theorem pt_gap {i n f t q A B : Int} (hA : A = max f q) (hB : B = min t (q + n)) (h : A < B) : ptOne (0, i, n) (f - q) (t - q) = [(0, 0, B - A)] := by
  unfold ptOne
  rw [if_pos (by simp only; omega)]
  have e : min (t - q) n - max (f - q) 0 = B - A := by omega
  simp only [if_true, e]
theorem pt_yes {s i n f t q A B : Int} (hA : A = max f q) (hB : B = min t (q + n)) (h : A < B) (hs : s ≠ 0) : ptOne (s, i, n) (f - q) (t - q) = [(s, i + A - q, B - A)] := by
  unfold ptOne
  rw [if_pos (by simp only; omega)]
  have e : min (t - q) n - max (f - q) 0 = B - A := by omega
  have e2 : i + max (f - q) 0 = i + A - q := by omega
  simp only [if_neg hs, e, e2]

/-- what the loops hold -/
def PR (w : World) (l : List Kl) (f t : Int) (k : Nat) (wr : World) (g c : Nat) : Prop := w.heap.size ≤ g ∧ Own wr w.heap.size g (part (l.take k) f t).length c (part (l.take k) f t) ∧ Below w.heap.size w wr
theorem pr_same {w wr w' : World} {l : List Kl} {f t : Int} {k g c : Nat} (h : PR w l f t k wr g c) (hp : part (l.take (k + 1)) f t = part (l.take k) f t) (hb : Below wr.heap.size wr w') : PR w l f t (k + 1) w' g c := by
  obtain ⟨h1, h2, h3⟩ := h
  refine ⟨h1, ?_, laterB h3 hb⟩
  rw [hp]
  exact ownsRow_below h2 hb
theorem pr_app {w w' : World} {l : List Kl} {f t : Int} {k g c m : Nat} {x : Kl} (hp : part (l.take (k + 1)) f t = part (l.take k) f t ++ [x]) (hm : m = (part (l.take k) f t).length) (h1 : w.heap.size ≤ g) (h2 : Own w' w.heap.size g (m + 1) c (part (l.take k) f t ++ [x])) (h3 : Below w.heap.size w w') : PR w l f t (k + 1) w' g c := by
  subst hm
  refine ⟨h1, ?_, h3⟩
  rw [hp]
  have e : (part (l.take k) f t ++ [x]).length = (part (l.take k) f t).length + 1 := by simp
  rw [e]
  exact h2

set_option maxHeartbeats 3200000 in
theorem spart_any (a : Option Addr) (cap : Nat) (l : List Kl) (f t : Int) (w : World) (hT : TOk l) (hf : 0 ≤ f ∧ f ≤ 5000000000) (ht : 0 ≤ t ∧ t ≤ 5000000000) (hk : Kls w a l) :
    Calls Try.prog 34 #[.slice a l.length cap, .int .i64 f, .int .i64 t] w fun e w' => ∃ g c, e = .returned (.slice (some ⟨g, 0, none⟩) (part l f t).length c) ∧ w.heap.size ≤ g ∧ Own w' w.heap.size g (part l f t).length c (part l f t) ∧ Below w.heap.size w w' := by
  have hk' := hide hk
  have hA' := hide hT.2.1
  have hl := hT.1
  have hL := hT.2.2
  obtain ⟨f0, f1⟩ := hf
  obtain ⟨t0, t1⟩ := ht
  clear hk hT
  have h0 := hide (show PR w l f t 0 (w.alloc (.cells #[] 63)) w.heap.size 0 from ⟨Nat.le_refl _, own_lit0 w (Nat.le_refl _), (Below.refl _ _).alloc (Nat.le_refl _) _⟩)
  go_enter Try.func34, Try.ntmps34
  go_wp2
  go_loopw [7, 8, 9] (fun s q t' wr => ∃ k g c : Nat, k ≤ l.length ∧ t' = .int .i64 k ∧ q = .int .i64 (clen (l.take k)) ∧ s = .slice (some ⟨g, 0, none⟩) (part (l.take k) f t).length c ∧ Hid (PR w l f t k wr g c)) (fun _ _ t' _ => l.length - (intOf t').toNat)
  case atStart => exact ⟨0, w.heap.size, 0, by omega, rfl, by simp [clen], rfl, h0⟩
  case round =>
    clear h0
    obtain ⟨k, g, cp, hk, rfl, rfl, rfl, hJ⟩ := hrel
    obtain ⟨b0, _⟩ := take_bd ((unhide hA').take k) hk
    have b1 := clen_take_le (unhide hA') k
    by_cases hlt : k < l.length
    · obtain ⟨b, o', s, i, n, rfl, hx, c0, c1, c2⟩ := kls_at (unhide hk') (unhide hJ).2.2 hlt
      have hcA := (unhide hA') _ (List.mem_of_getElem? hx)
      have hcl := hide (clen_take hx)
      have hps := hide (part_snoc hx f t)
      obtain ⟨n0, n1, i0, i1, _⟩ := hcA
      simp only at n0 n1 i0 i1
      clear hx
      obtain ⟨q, hq⟩ : ∃ q, q = clen (l.take k) := ⟨_, rfl⟩
      rw [← hq] at b0 b1 hcl hps ⊢
      obtain ⟨A, hA⟩ : ∃ A, A = max f q := ⟨_, rfl⟩
      obtain ⟨B, hB⟩ : ∃ B, B = min t (q + n) := ⟨_, rfl⟩
      obtain ⟨m, hm⟩ : ∃ m, m = (part (l.take k) f t).length := ⟨_, rfl⟩
      rw [← hm]
      have hmk : m ≤ 300 := by have := part_len (l.take k) f t; rw [List.length_take] at this; omega
      have hown : Hid (Own wr w.heap.size g m cp (part (l.take k) f t)) := hide (by rw [hm]; exact (unhide hJ).2.1)
      have hg0 := (unhide hJ).1
      have hglt : g < wr.heap.size := own_lt (unhide hJ).2.1
      have hwB := hide (unhide hJ).2.2
      have A0 : q ≤ A := by omega
      have A1 : A ≤ 5000000000 := by omega
      have B0 : B ≤ 5000000000 := by omega
      have B1 : 0 ≤ B := by omega
      have hA2 := hide hA
      have hB2 := hide hB
      have hm' := hide hm
      have hq' := hide hq
      clear hA hB hm hq
      go_wp2_with fail
      refine (max_any f q A _ (unhide hA2).symm).mono ?_
      rintro e w1 ⟨rfl, rfl⟩
      go_wp2_with fail
      refine (min_any t (q + n) B _ (unhide hB2).symm).mono ?_
      rintro e w1 ⟨rfl, rfl⟩
      by_cases hab : A < B
      · by_cases hs : s = 0
        · subst hs
          have hp2 := hide (show part (l.take (k + 1)) f t = part (l.take k) f t ++ [(0, 0, B - A)] by rw [unhide hps, pt_gap (unhide hA2) (unhide hB2) hab])
          go_wp2_with (at_builtin; refine wpList_kM Try.underlying24 (B := w.heap.size) (C := wr.heap.size) (wr := wr) (g := g) (n := m) (cap := cp) (L := part (l.take k) f t) rfl _ _ rfl rfl (unhide hown) (hX := by repeat first | exact Below.refl _ _ | refine Below.setCell ?_ (by simp <;> omega) _ | refine Below.alloc ?_ (by simp <;> omega) _) hglt (wr.heap.size + 1 + 1) (by simp) rfl (by omega) (by omega) (by omega) ?_)
          intro g' cap' w' hown' hbel' hg' hlt' hkp
          have hJ' := hide (show PR w l f t (k + 1) w' g' cap' from pr_app (unhide hp2) (unhide hm') hg' hown' ((unhide hwB).trans hbel'))
          have hsl := hide (show (part (l.take (k + 1)) f t).length = m + 1 by rw [unhide hp2]; simp [unhide hm'])
          have hn := (hkp wr.heap.size 2 (by omega) (by omega)).trans (show _ = some (.int .i64 n) by simp [go_sem])
          clear hkp hown' hbel' hown hJ
          go_wp2
          go_roundw
          case rel => exact ⟨k + 1, g', cap', by omega, by go_num, by rw [unhide hcl], by rw [unhide hsl], hJ'⟩
          case measure => simp [intOf]; omega
        · have hp2 := hide (show part (l.take (k + 1)) f t = part (l.take k) f t ++ [(s, i + A - q, B - A)] by rw [unhide hps, pt_yes (unhide hA2) (unhide hB2) hab hs])
          have hs' : (s == 0) = false := by simpa using hs
          clear hs
          go_wp2_with (at_builtin; refine wpList_kM Try.underlying24 (B := w.heap.size) (C := wr.heap.size) (wr := wr) (g := g) (n := m) (cap := cp) (L := part (l.take k) f t) rfl _ _ rfl rfl (unhide hown) (hX := by repeat first | exact Below.refl _ _ | refine Below.setCell ?_ (by simp <;> omega) _ | refine Below.alloc ?_ (by simp <;> omega) _) hglt (wr.heap.size + 1 + 1) (by simp) rfl (by omega) (by omega) (by omega) ?_)
          intro g' cap' w' hown' hbel' hg' hlt' hkp
          have hJ' := hide (show PR w l f t (k + 1) w' g' cap' from pr_app (unhide hp2) (unhide hm') hg' hown' ((unhide hwB).trans hbel'))
          have hsl := hide (show (part (l.take (k + 1)) f t).length = m + 1 by rw [unhide hp2]; simp [unhide hm'])
          have hn := (hkp wr.heap.size 2 (by omega) (by omega)).trans (show _ = some (.int .i64 n) by simp [go_sem])
          clear hkp hown' hbel' hown hJ
          go_wp2
          go_roundw
          case rel => exact ⟨k + 1, g', cap', by omega, by go_num, by rw [unhide hcl], by rw [unhide hsl], hJ'⟩
          case measure => simp [intOf]; omega
      · have hp2 := hide (show part (l.take (k + 1)) f t = part (l.take k) f t by rw [unhide hps, pt_no (unhide hA2) (unhide hB2) hab, List.append_nil])
        have hab' : decide (A < B) = false := by simpa using hab
        have hJ' := hide (pr_same (unhide hJ) (unhide hp2) (w' := wr.alloc (.cells #[.int .i64 s, .int .i64 i, .int .i64 n] 63)) ((Below.refl _ _).alloc (Nat.le_refl _) _))
        have hsl := hide (show (part (l.take (k + 1)) f t).length = m by rw [unhide hp2, unhide hm'])
        clear hJ hown hab
        go_wp2
        go_roundw
        case rel => exact ⟨k + 1, g, cp, by omega, by go_num, by rw [unhide hcl], by rw [unhide hsl], hJ'⟩
        case measure => simp [intOf]; omega
    · have hke : k = l.length := by omega
      have hlj := hide (show part (l.take k) f t = part l f t by rw [hke, List.take_length])
      rw [unhide hlj]
      have hJ2 : Hid (w.heap.size ≤ g ∧ Own wr w.heap.size g (part l f t).length cp (part l f t) ∧ Below w.heap.size w wr) := hide (by have := unhide hJ; unfold PR at this; rw [unhide hlj] at this; exact this)
      clear hJ
      go_wp2
      go_ret
      exact ⟨g, cp, rfl, (unhide hJ2).1, (unhide hJ2).2.1, (unhide hJ2).2.2⟩
end Go.Proofs.Ytfcjdempigoiiaa
