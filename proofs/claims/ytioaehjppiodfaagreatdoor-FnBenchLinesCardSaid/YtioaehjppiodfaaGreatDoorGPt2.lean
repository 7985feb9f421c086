/-
  Contracts of taking a part of a track, the model's and the program's; the answer is new memory, nothing that was there is written.
  The program's taking a part of a track; the answer is new memory, nothing that was there is written.
-/
import Derived.Test.YtioaehjppiodfaaGreatDoorGJn
namespace Go.Proofs.YtioaehjppiodfaaGreatDoor
open Go.RowKit
set_option linter.unusedVariables false
set_option linter.unusedSimpArgs false

set_option maxHeartbeats 400000 in
theorem max_any (a b v : Int) (w : World) (hv : max a b = v) : Calls Tryz.prog 126 #[.int .i64 a, .int .i64 b] w fun e w' => e = .returned (.int .i64 v) ∧ w' = w := by
  subst hv
  by_cases h : b < a
  · go_enter Tryz.func126, Tryz.ntmps126
    go_wp2
    go_ret
    exact ⟨ret_int (by omega), rfl⟩
  · have h' : decide (b < a) = false := by simpa using h
    go_enter Tryz.func126, Tryz.ntmps126
    go_wp2
    go_ret
    exact ⟨ret_int (by omega), rfl⟩
set_option maxHeartbeats 400000 in
theorem min_any (a b v : Int) (w : World) (hv : min a b = v) : Calls Tryz.prog 96 #[.int .i64 a, .int .i64 b] w fun e w' => e = .returned (.int .i64 v) ∧ w' = w := by
  subst hv
  by_cases h : a < b
  · go_enter Tryz.func96, Tryz.ntmps96
    go_wp2
    go_ret
    exact ⟨ret_int (by omega), rfl⟩
  · have h' : decide (a < b) = false := by simpa using h
    go_enter Tryz.func96, Tryz.ntmps96
    go_wp2
    go_ret
    exact ⟨ret_int (by omega), rfl⟩

theorem wpList_kM {T : TypeId} (hT : Tryz.prog.underlying T = some (.slice 94)) {ops : Array Oper} {rest : List Oper} {o : Oper} {a : Act} {Q : Exit → Act → World → Prop} {X wr : World} {B C g n cap : Nat} {v1 v2 v3 : Int} {L : List Kl} (hgd : o.guard = none) (s x : Operand) (ho : o.op = .call { callee := .builtin .append, args := #[s, x], argTypes := #[T, T] })
    (hs : a.eval s = .slice (some ⟨g, 0, none⟩) n cap) (hown : Own wr B g n cap L) (hX : Below C wr X) (hg : g < C) (E : Nat) (hE : X.heap.size = E) (hx : a.eval x = .slice (some ⟨E, 0, none⟩) 1 1) (hl : n ≤ 1000000) (hB : B ≤ wr.heap.size) (hBC : B ≤ C)
    (h : ∀ g' cap' w', Own w' B g' (n + 1) cap' (L ++ [(v1, v2, v3)]) → Below B wr w' → B ≤ g' → g' < w'.heap.size → (∀ b i, b < E → b ≠ g → w'.cell? ⟨b, i, none⟩ = (X.alloc (.cells #[.int .i64 v1, .int .i64 v2, .int .i64 v3] 94)).cell? ⟨b, i, none⟩) → wpList Tryz.prog ops Q rest (a.put o.dst (.slice (some ⟨g', 0, none⟩) (n + 1) cap')) w') : wpList Tryz.prog ops Q (o :: rest) a (X.alloc (.cells #[.int .i64 v1, .int .i64 v2, .int .i64 v3] 94)) := by
  subst hE
  have hb2 : Below B wr (X.alloc (.cells #[.int .i64 v1, .int .i64 v2, .int .i64 v3] 94)) := (hX.mono hBC).alloc (Nat.le_trans hB hX.size) _
  have hown1 := own_blk (own_blk hown hX hg) ((Below.refl X.heap.size X).alloc (Nat.le_refl _) (.cells #[.int .i64 v1, .int .i64 v2, .int .i64 v3] 94)) (own_lt (own_blk hown hX hg))
  obtain ⟨i0, hi, hz0, hz1, hz2⟩ := info_parts info44
  have hBg : B ≤ g := (hown.lt g rfl).1
  have hBs : B ≤ (X.alloc (.cells #[.int .i64 v1, .int .i64 v2, .int .i64 v3] 94)).heap.size := Nat.le_trans hB hb2.size
  refine wpList_append_lies _ hgd s x T ho B 94 i0 (.agg #[.int .i64 0, .int .i64 0, .int .i64 0]) 3 24 hT hi hz0 hz1 hz2 rfl (by decide) _ n (flK L) hs hown1 ⟨X.heap.size, 0, none⟩ 1 1 [iv v1, iv v2, iv v3] hx rfl (K_news (c := (v1, v2, v3)) (heap_alloc_new X _)) (by intro u hu; simp at hu; rcases hu with rfl | rfl | rfl <;> rfl) (by decide) (by unfold maxLen; omega) (by omega) hBs _ rfl ?_
  intro g' cap' w' h1 h2 h3 h4
  have ho' : Own w' B g' (n + 1) cap' (L ++ [(v1, v2, v3)]) := by show World.ownsRow _ _ _ _ _ _ _; rw [flK_append]; exact h1
  refine h g' cap' w' ho' ?_ (own_ge ho') (own_lt ho') ?_
  · exact hb2.trans ((Below.refl _ _).grown h2 hBs (fun k hk => by simp [Value.ownBlock] at hk; omega))
  · intro b i hb hne
    exact World.cell?_of_block (a := ⟨b, i, none⟩) (h2.block b (by simp; omega) (by simp [Value.ownBlock]; omega))

theorem pt_no {s i n f t q A B : Int} (hA : A = max f q) (hB : B = min t (q + n)) (h : ¬ A < B) : ptOne (s, i, n) (f - q) (t - q) = [] := by
  unfold ptOne
  rw [if_neg (by simp only; omega)]
theorem pt_gap {i n f t q A B : Int} (hA : A = max f q) (hB : B = min t (q + n)) (h : A < B) : ptOne (0, i, n) (f - q) (t - q) = [(0, 0, B - A)] := by
  unfold ptOne
  rw [if_pos (by simp only; omega)]
  have e : min (t - q) n - max (f - q) 0 = B - A := by omega
  simp only [if_true, e]
theorem pt_yes {s i n f t q A B : Int} (hA : A = max f q) (hB : B = min t (q + n)) (h : A < B) (hs : s ≠ 0) : ptOne (s, i, n) (f - q) (t - q) = [(s, i + A - q, B - A)] := by
  unfold ptOne
  rw [if_pos (by simp only; omega)]
  have e : min (t - q) n - max (f - q) 0 = B - A := by omega
  have e2 : i + max (f - q) 0 = i + A - q := by omega
  simp only [if_neg hs, e, e2]

/-- what the loops hold -/
def PR (w : World) (l : List Kl) (f t : Int) (k : Nat) (wr : World) (g c : Nat) : Prop := w.heap.size ≤ g ∧ Own wr w.heap.size g (part (l.take k) f t).length c (part (l.take k) f t) ∧ Below w.heap.size w wr
theorem pr_same {w wr w' : World} {l : List Kl} {f t : Int} {k g c : Nat} (h : PR w l f t k wr g c) (hp : part (l.take (k + 1)) f t = part (l.take k) f t) (hb : Below wr.heap.size wr w') : PR w l f t (k + 1) w' g c := by
  obtain ⟨h1, h2, h3⟩ := h
  refine ⟨h1, ?_, laterB h3 hb⟩
  rw [hp]
  exact ownsRow_below h2 hb
theorem pr_app {w w' : World} {l : List Kl} {f t : Int} {k g c m : Nat} {x : Kl} (hp : part (l.take (k + 1)) f t = part (l.take k) f t ++ [x]) (hm : m = (part (l.take k) f t).length) (h1 : w.heap.size ≤ g) (h2 : Own w' w.heap.size g (m + 1) c (part (l.take k) f t ++ [x])) (h3 : Below w.heap.size w w') : PR w l f t (k + 1) w' g c := by
  subst hm
  refine ⟨h1, ?_, h3⟩
  rw [hp]
  have e : (part (l.take k) f t ++ [x]).length = (part (l.take k) f t).length + 1 := by simp
  rw [e]
  exact h2

set_option maxHeartbeats 3200000 in
theorem spart_any (a : Option Addr) (cap : Nat) (l : List Kl) (f t : Int) (w : World) (hT : TOk l) (hf : 0 ≤ f ∧ f ≤ 30000000) (ht : 0 ≤ t ∧ t ≤ 30000000) (hk : Kls w a l) :
    Calls Tryz.prog 99 #[.slice a l.length cap, .int .i64 f, .int .i64 t] w fun e w' => ∃ g c, e = .returned (.slice (some ⟨g, 0, none⟩) (part l f t).length c) ∧ w.heap.size ≤ g ∧ Own w' w.heap.size g (part l f t).length c (part l f t) ∧ Below w.heap.size w w' := by
  have hk' := hide hk
  have hA' := hide hT.2.1
  have hl := hT.1
  have hL := hT.2.2
  obtain ⟨f0, f1⟩ := hf
  obtain ⟨t0, t1⟩ := ht
  clear hk hT
  have h0 := hide (show PR w l f t 0 (w.alloc (.cells #[] 94)) w.heap.size 0 from ⟨Nat.le_refl _, own_lit0 w (Nat.le_refl _), (Below.refl _ _).alloc (Nat.le_refl _) _⟩)
  go_enter Tryz.func99, Tryz.ntmps99
  go_wp2
  go_loopw [7, 8, 9] (fun s q t' wr => ∃ k g c : Nat, k ≤ l.length ∧ t' = .int .i64 k ∧ q = .int .i64 (clen (l.take k)) ∧ s = .slice (some ⟨g, 0, none⟩) (part (l.take k) f t).length c ∧ Hid (PR w l f t k wr g c)) (fun _ _ t' _ => l.length - (intOf t').toNat)
  case atStart => exact ⟨0, w.heap.size, 0, by omega, rfl, by simp [clen], rfl, h0⟩
  case round =>
    clear h0
    obtain ⟨k, g, cp, hk, rfl, rfl, rfl, hJ⟩ := hrel
    obtain ⟨b0, _⟩ := take_bd ((unhide hA').take k) hk
    have b1 := clen_take_le (unhide hA') k
    by_cases hlt : k < l.length
    · obtain ⟨b, o', s, i, n, rfl, hx, c0, c1, c2⟩ := kls_at (unhide hk') (unhide hJ).2.2 hlt
      have hcA := (unhide hA') _ (List.mem_of_getElem? hx)
      have hcl := hide (clen_take hx)
      have hps := hide (part_snoc hx f t)
      obtain ⟨n0, n1, i0, i1, _⟩ := hcA
      simp only at n0 n1 i0 i1
      clear hx
      obtain ⟨q, hq⟩ : ∃ q, q = clen (l.take k) := ⟨_, rfl⟩
      rw [← hq] at b0 b1 hcl hps ⊢
      obtain ⟨A, hA⟩ : ∃ A, A = max f q := ⟨_, rfl⟩
      obtain ⟨B, hB⟩ : ∃ B, B = min t (q + n) := ⟨_, rfl⟩
      obtain ⟨m, hm⟩ : ∃ m, m = (part (l.take k) f t).length := ⟨_, rfl⟩
      rw [← hm]
      have hmk : m ≤ 300 := by have := part_len (l.take k) f t; rw [List.length_take] at this; omega
      have hown : Hid (Own wr w.heap.size g m cp (part (l.take k) f t)) := hide (by rw [hm]; exact (unhide hJ).2.1)
      have hg0 := (unhide hJ).1
      have hglt : g < wr.heap.size := own_lt (unhide hJ).2.1
      have hwB := hide (unhide hJ).2.2
      have A0 : q ≤ A := by omega
      have A1 : A ≤ 30000000 := by omega
      have B0 : B ≤ 30000000 := by omega
      have B1 : 0 ≤ B := by omega
      have hA2 := hide hA
      have hB2 := hide hB
      have hm' := hide hm
      have hq' := hide hq
      clear hA hB hm hq
      go_wp2_with fail
      refine (max_any f q A _ (unhide hA2).symm).mono ?_
      rintro e w1 ⟨rfl, rfl⟩
      go_wp2_with fail
      refine (min_any t (q + n) B _ (unhide hB2).symm).mono ?_
      rintro e w1 ⟨rfl, rfl⟩
      by_cases hab : A < B
      · by_cases hs : s = 0
        · subst hs
          have hp2 := hide (show part (l.take (k + 1)) f t = part (l.take k) f t ++ [(0, 0, B - A)] by rw [unhide hps, pt_gap (unhide hA2) (unhide hB2) hab])
          go_wp2_with (at_builtin; refine wpList_kM Tryz.underlying36 (B := w.heap.size) (C := wr.heap.size) (wr := wr) (g := g) (n := m) (cap := cp) (L := part (l.take k) f t) rfl _ _ rfl rfl (unhide hown) (hX := by repeat first | exact Below.refl _ _ | refine Below.setCell ?_ (by simp <;> omega) _ | refine Below.alloc ?_ (by simp <;> omega) _) hglt (wr.heap.size + 1 + 1) (by simp) rfl (by omega) (by omega) (by omega) ?_)
          intro g' cap' w' hown' hbel' hg' hlt' hkp
          have hJ' := hide (show PR w l f t (k + 1) w' g' cap' from pr_app (unhide hp2) (unhide hm') hg' hown' ((unhide hwB).trans hbel'))
          have hsl := hide (show (part (l.take (k + 1)) f t).length = m + 1 by rw [unhide hp2]; simp [unhide hm'])
          have hn := (hkp wr.heap.size 2 (by omega) (by omega)).trans (show _ = some (.int .i64 n) by simp [go_sem])
          clear hkp hown' hbel' hown hJ
          go_wp2
          go_roundw
          case rel => exact ⟨k + 1, g', cap', by omega, by go_num, by rw [unhide hcl], by rw [unhide hsl], hJ'⟩
          case measure => simp [intOf]; omega
        · have hp2 := hide (show part (l.take (k + 1)) f t = part (l.take k) f t ++ [(s, i + A - q, B - A)] by rw [unhide hps, pt_yes (unhide hA2) (unhide hB2) hab hs])
          have hs' : (s == 0) = false := by simpa using hs
          clear hs
          go_wp2_with (at_builtin; refine wpList_kM Tryz.underlying36 (B := w.heap.size) (C := wr.heap.size) (wr := wr) (g := g) (n := m) (cap := cp) (L := part (l.take k) f t) rfl _ _ rfl rfl (unhide hown) (hX := by repeat first | exact Below.refl _ _ | refine Below.setCell ?_ (by simp <;> omega) _ | refine Below.alloc ?_ (by simp <;> omega) _) hglt (wr.heap.size + 1 + 1) (by simp) rfl (by omega) (by omega) (by omega) ?_)
          intro g' cap' w' hown' hbel' hg' hlt' hkp
          have hJ' := hide (show PR w l f t (k + 1) w' g' cap' from pr_app (unhide hp2) (unhide hm') hg' hown' ((unhide hwB).trans hbel'))
          have hsl := hide (show (part (l.take (k + 1)) f t).length = m + 1 by rw [unhide hp2]; simp [unhide hm'])
          have hn := (hkp wr.heap.size 2 (by omega) (by omega)).trans (show _ = some (.int .i64 n) by simp [go_sem])
          clear hkp hown' hbel' hown hJ
          go_wp2
          go_roundw
          case rel => exact ⟨k + 1, g', cap', by omega, by go_num, by rw [unhide hcl], by rw [unhide hsl], hJ'⟩
          case measure => simp [intOf]; omega
      · have hp2 := hide (show part (l.take (k + 1)) f t = part (l.take k) f t by rw [unhide hps, pt_no (unhide hA2) (unhide hB2) hab, List.append_nil])
        have hab' : decide (A < B) = false := by simpa using hab
        have hJ' := hide (pr_same (unhide hJ) (unhide hp2) (w' := wr.alloc (.cells #[.int .i64 s, .int .i64 i, .int .i64 n] 94)) ((Below.refl _ _).alloc (Nat.le_refl _) _))
        have hsl := hide (show (part (l.take (k + 1)) f t).length = m by rw [unhide hp2, unhide hm'])
        clear hJ hown hab
        go_wp2
        go_roundw
        case rel => exact ⟨k + 1, g, cp, by omega, by go_num, by rw [unhide hcl], by rw [unhide hsl], hJ'⟩
        case measure => simp [intOf]; omega
    · have hke : k = l.length := by omega
      have hlj := hide (show part (l.take k) f t = part l f t by rw [hke, List.take_length])
      rw [unhide hlj]
      have hJ2 : Hid (w.heap.size ≤ g ∧ Own wr w.heap.size g (part l f t).length cp (part l f t) ∧ Below w.heap.size w wr) := hide (by have := unhide hJ; unfold PR at this; rw [unhide hlj] at this; exact this)
      clear hJ
      go_wp2
      go_ret
      exact ⟨g, cp, rfl, (unhide hJ2).1, (unhide hJ2).2.1, (unhide hJ2).2.2⟩
end Go.Proofs.YtioaehjppiodfaaGreatDoor

namespace Go.Proofs.YtioaehjppiodfaaGreatDoor
open Go.RowKit
set_option linter.unusedVariables false
set_option linter.unusedSimpArgs false

set_option maxHeartbeats 800000 in
theorem partOf_any (s i n a b v : Int) (w : World) (hv : (if s = 0 then 0 else i + a) = v) (hi : 0 ≤ i ∧ i ≤ 10000000) (ha : 0 ≤ a ∧ a ≤ 10000000) (hb : 0 ≤ b ∧ b ≤ 10000000) :
    Calls Tryz.prog 133 #[.agg #[.int .i64 s, .int .i64 i, .int .i64 n], .int .i64 a, .int .i64 b] w fun e w' => e = .returned (.agg #[.int .i64 s, .int .i64 v, .int .i64 (b - a)]) ∧ Below w.heap.size w w' := by
  subst hv
  obtain ⟨i0, i1⟩ := hi
  obtain ⟨a0, a1⟩ := ha
  obtain ⟨b0, b1⟩ := hb
  have hX := hide (show Below w.heap.size w ((w.alloc (.cells #[.int .i64 s, .int .i64 i, .int .i64 n] 94)).alloc (.cells #[.int .i64 0, .int .i64 0, .int .i64 0] 94)) from ((Below.refl _ _).alloc (Nat.le_refl _) _).alloc (by simp) _)
  by_cases hs : s = 0
  · subst hs
    go_enter Tryz.func133, Tryz.ntmps133
    go_wp2_with fail
    refine (gap_any 0 i n true _ rfl).mono ?_
    rintro e w1 ⟨rfl, hb⟩
    obtain ⟨B1, B2⟩ := bcell hb
    have hw := hide (laterB (unhide hX) hb)
    clear hb
    go_wp2
    refine bodyPost_ret (v := .agg #[.int .i64 0, .int .i64 0, .int .i64 (b - a)]) (by simp [results, Tryz.results133, go_sem, B1]) rfl ⟨by simp, ?_⟩
    have := unhide hw
    repeat first | exact this | refine Below.setCell ?_ (by simp) _
  · have hs' : decide (s = 0) = false := by simpa using hs
    go_enter Tryz.func133, Tryz.ntmps133
    go_wp2_with fail
    refine (gap_any s i n false _ hs').mono ?_
    rintro e w1 ⟨rfl, hb⟩
    obtain ⟨B1, B2⟩ := bcell hb
    have hw := hide (laterB (unhide hX) hb)
    clear hb
    go_wp2
    refine bodyPost_ret (v := .agg #[.int .i64 s, .int .i64 (i + a), .int .i64 (b - a)]) (by simp [results, Tryz.results133, go_sem, B1]) rfl ⟨by simp [hs], ?_⟩
    have := unhide hw
    repeat first | exact this | refine Below.setCell ?_ (by simp) _

set_option maxHeartbeats 3200000 in
theorem ipart_any (a : Option Addr) (cap : Nat) (l : List Kl) (f t : Int) (w : World) (hT : TOk l) (hf : 0 ≤ f ∧ f ≤ 30000000) (ht : 0 ≤ t ∧ t ≤ 30000000) (hk : Kls w a l) :
    Calls Tryz.prog 118 #[.slice a l.length cap, .int .i64 f, .int .i64 t] w fun e w' => ∃ g c, e = .returned (.slice (some ⟨g, 0, none⟩) (part l f t).length c) ∧ w.heap.size ≤ g ∧ Own w' w.heap.size g (part l f t).length c (part l f t) ∧ Below w.heap.size w w' := by
  have hk' := hide hk
  have hA' := hide hT.2.1
  have hl := hT.1
  have hL := hT.2.2
  obtain ⟨f0, f1⟩ := hf
  obtain ⟨t0, t1⟩ := ht
  clear hk hT
  have h0 := hide (show PR w l f t 0 (w.alloc (.cells #[] 94)) w.heap.size 0 from ⟨Nat.le_refl _, own_lit0 w (Nat.le_refl _), (Below.refl _ _).alloc (Nat.le_refl _) _⟩)
  go_enter Tryz.func118, Tryz.ntmps118
  go_wp2
  go_loopw [1, 2, 7, 15] (fun p q s t' wr => ∃ k g c : Nat, k ≤ l.length ∧ t' = .int .i64 k ∧ p = .int .i64 (f - clen (l.take k)) ∧ q = .int .i64 (t - clen (l.take k)) ∧ s = .slice (some ⟨g, 0, none⟩) (part (l.take k) f t).length c ∧ Hid (PR w l f t k wr g c)) (fun _ _ _ t' _ => l.length - (intOf t').toNat)
  case atStart => exact ⟨0, w.heap.size, 0, by omega, rfl, by simp [clen], by simp [clen], rfl, h0⟩
  case round =>
    clear h0
    obtain ⟨k, g, cp, hk, rfl, rfl, rfl, rfl, hJ⟩ := hrel
    obtain ⟨b0, _⟩ := take_bd ((unhide hA').take k) hk
    have b1 := clen_take_le (unhide hA') k
    by_cases hlt : k < l.length
    · obtain ⟨b, o', s, i, n, rfl, hx, c0, c1, c2⟩ := kls_at (unhide hk') (unhide hJ).2.2 hlt
      have hcA := (unhide hA') _ (List.mem_of_getElem? hx)
      have hcl := hide (clen_take hx)
      have hps := hide (part_snoc hx f t)
      obtain ⟨n0, n1, i0, i1, _⟩ := hcA
      simp only at n0 n1 i0 i1
      clear hx
      obtain ⟨q, hq⟩ : ∃ q, q = clen (l.take k) := ⟨_, rfl⟩
      rw [← hq] at b0 b1 hcl hps ⊢
      obtain ⟨F, hF⟩ : ∃ F, F = f - q := ⟨_, rfl⟩
      obtain ⟨T, hTT⟩ : ∃ T, T = t - q := ⟨_, rfl⟩
      rw [← hF, ← hTT]
      obtain ⟨m, hm⟩ : ∃ m, m = (part (l.take k) f t).length := ⟨_, rfl⟩
      rw [← hm]
      have hmk : m ≤ 300 := by have := part_len (l.take k) f t; rw [List.length_take] at this; omega
      have hown : Hid (Own wr w.heap.size g m cp (part (l.take k) f t)) := hide (by rw [hm]; exact (unhide hJ).2.1)
      have hg0 := (unhide hJ).1
      have hglt : g < wr.heap.size := own_lt (unhide hJ).2.1
      have hwB := hide (unhide hJ).2.2
      have F0 : -10000000 ≤ F := by omega
      have F1 : F ≤ 30000000 := by omega
      have T0 : -10000000 ≤ T := by omega
      have T1 : T ≤ 30000000 := by omega
      have hF2 := hide hF
      have hT2 := hide hTT
      have hm' := hide hm
      have hq' := hide hq
      clear hF hTT hm hq
      go_wp2_with fail
      go_region
      generalize hA : (if F < 0 then 0 else F) = A
      generalize hB : (if n < T then n else T) = B
      have hA2 : A = max F 0 := by rw [← hA]; split <;> omega
      have hB2 : B = min T n := by rw [← hB]; split <;> omega
      have A0 : 0 ≤ A := by omega
      have A1 : A ≤ 30000000 := by omega
      have B0 : -10000000 ≤ B := by omega
      have B1 : B ≤ 10000000 := by omega
      have hX : Hid (Below wr.heap.size wr (wr.alloc (.cells #[.int .i64 s, .int .i64 i, .int .i64 n] 94)).drew) := hide ((Below.refl _ _).alloc (Nat.le_refl _) _).drew
      obtain ⟨X, hXe⟩ : ∃ X, X = (wr.alloc (.cells #[.int .i64 s, .int .i64 i, .int .i64 n] 94)).drew := ⟨_, rfl⟩
      have d0 : X.cell? ⟨wr.heap.size, 0, none⟩ = some (.int .i64 s) := by rw [hXe]; simp [go_sem]
      have d1 : X.cell? ⟨wr.heap.size, 1, none⟩ = some (.int .i64 i) := by rw [hXe]; simp [go_sem]
      have d2 : X.cell? ⟨wr.heap.size, 2, none⟩ = some (.int .i64 n) := by rw [hXe]; simp [go_sem]
      have hXs := hide (show X.heap.size = wr.heap.size + 1 by rw [hXe]; simp)
      rw [← hXe] at hX ⊢
      have hpt : ptOne (s, i, n) F T = if A < B then [(s, (if s = 0 then 0 else i + A), B - A)] else [] := by unfold ptOne; rw [hA2, hB2]
      rw [← unhide hF2, ← unhide hT2, hpt] at hps
      clear hA hB hA2 hB2 hXe hpt
      by_cases hab : A < B
      · obtain ⟨v, hv⟩ : ∃ v, (if s = 0 then 0 else i + A) = v := ⟨_, rfl⟩
        have hp2 := hide (show part (l.take (k + 1)) f t = part (l.take k) f t ++ [(s, v, B - A)] by rw [unhide hps, if_pos hab, hv])
        have hv' := hide hv
        clear hv hps
        go_wp2_with fail
        refine (partOf_any s i n A B v _ (unhide hv') ⟨i0, by omega⟩ ⟨A0, by omega⟩ ⟨by omega, B1⟩).mono ?_
        rintro e w1 ⟨rfl, hb1⟩
        have e2 := cell_later hb1 d2
        have hX1 := hide ((unhide hX).trans (hb1.mono (unhide hX).size))
        have hs1 : wr.heap.size < w1.heap.size := by have := hb1.size; have := unhide hXs; omega
        clear hb1 d0 d1 d2
        go_wp2_with (at_builtin; refine wpList_kM Tryz.underlying78 (B := w.heap.size) (C := wr.heap.size) (wr := wr) (g := g) (n := m) (cap := cp) (L := part (l.take k) f t) rfl _ _ rfl rfl (unhide hown) (hX := unhide hX1) hglt w1.heap.size rfl rfl (by omega) (by omega) (by omega) ?_)
        intro g' cap' w' hown' hbel' hg' hlt' hkp
        have hJ' := hide (show PR w l f t (k + 1) w' g' cap' from pr_app (unhide hp2) (unhide hm') hg' hown' ((unhide hwB).trans hbel'))
        have hsl := hide (show (part (l.take (k + 1)) f t).length = m + 1 by rw [unhide hp2]; simp [unhide hm'])
        have hn := (hkp wr.heap.size 2 hs1 (by omega)).trans (show _ = some (.int .i64 n) by rw [World.cell?_alloc_past _ _ _ (by simpa using hs1)]; exact e2)
        clear hkp hown' hbel' hown hJ
        go_wp2
        go_roundw
        case rel => exact ⟨k + 1, g', cap', by omega, by go_num, by rw [unhide hcl, unhide hF2]; exact congrArg (Value.int .i64) (by omega), by rw [unhide hcl, unhide hT2]; exact congrArg (Value.int .i64) (by omega), by rw [unhide hsl], hJ'⟩
        case measure => simp [intOf]; omega
      · have hp2 := hide (show part (l.take (k + 1)) f t = part (l.take k) f t by rw [unhide hps, if_neg hab, List.append_nil])
        have hab' : decide (A < B) = false := by simpa using hab
        have hJ' := hide (pr_same (unhide hJ) (unhide hp2) (unhide hX))
        have hsl := hide (show (part (l.take (k + 1)) f t).length = m by rw [unhide hp2, unhide hm'])
        clear hJ hown hab
        go_wp2
        go_roundw
        case rel => exact ⟨k + 1, g, cp, by omega, by go_num, by rw [unhide hcl, unhide hF2]; exact congrArg (Value.int .i64) (by omega), by rw [unhide hcl, unhide hT2]; exact congrArg (Value.int .i64) (by omega), by rw [unhide hsl], hJ'⟩
        case measure => simp [intOf]; omega
    · have hke : k = l.length := by omega
      have hlj := hide (show part (l.take k) f t = part l f t by rw [hke, List.take_length])
      rw [unhide hlj]
      have hJ2 : Hid (w.heap.size ≤ g ∧ Own wr w.heap.size g (part l f t).length cp (part l f t) ∧ Below w.heap.size w wr) := hide (by have := unhide hJ; unfold PR at this; rw [unhide hlj] at this; exact this)
      clear hJ
      go_wp2
      go_ret
      exact ⟨g, cp, rfl, (unhide hJ2).1, (unhide hJ2).2.1, (unhide hJ2).2.2⟩
end Go.Proofs.YtioaehjppiodfaaGreatDoor
