/-
  Contracts of taking a part of a track, the model's and the program's; the answer is new memory, nothing that was there is written.
  Lists of clips behind lists of clips: an append of whatever list, room that is made ahead, and the library's Concat, Grow and Clone of clips; answers are new memory.
  Contracts of the model's edits: what it answers of a list of clips, and of what is put between two parts of a track; answers are new memory, nothing that was there is written.
-/
import Derived.Test.YtioaehjppiodfaaGreatDoorG09
import Derived.Laws.AppendOwnNone
import Derived.Lib.AppendZeros
namespace Go.Proofs.YtioaehjppiodfaaGreatDoor
open Go.RowKit
set_option linter.unusedVariables false
set_option linter.unusedSimpArgs false

set_option maxHeartbeats 400000 in
theorem max_any (a b v : Int) (w : World) (hv : max a b = v) : Calls Tryz.prog 126 #[.int .i64 a, .int .i64 b] w fun e w' => e = .returned (.int .i64 v) ∧ w' = w := by
  subst hv
  by_cases h : b < a
  · go_enter Tryz.func126, Tryz.ntmps126
    go_wp2
    go_ret
    exact ⟨ret_int (by omega), rfl⟩
  · have h' : decide (b < a) = false := by simpa using h
    go_enter Tryz.func126, Tryz.ntmps126
    go_wp2
    go_ret
    exact ⟨ret_int (by omega), rfl⟩
set_option maxHeartbeats 400000 in
theorem min_any (a b v : Int) (w : World) (hv : min a b = v) : Calls Tryz.prog 96 #[.int .i64 a, .int .i64 b] w fun e w' => e = .returned (.int .i64 v) ∧ w' = w := by
  subst hv
  by_cases h : a < b
  · go_enter Tryz.func96, Tryz.ntmps96
    go_wp2
    go_ret
    exact ⟨ret_int (by omega), rfl⟩
  · have h' : decide (a < b) = false := by simpa using h
    go_enter Tryz.func96, Tryz.ntmps96
    go_wp2
    go_ret
    exact ⟨ret_int (by omega), rfl⟩

theorem wpList_kM {T : TypeId} (hT : Tryz.prog.underlying T = some (.slice 94)) {ops : Array Oper} {rest : List Oper} {o : Oper} {a : Act} {Q : Exit → Act → World → Prop} {X wr : World} {B C g n cap : Nat} {v1 v2 v3 : Int} {L : List Kl} (hgd : o.guard = none) (s x : Operand) (ho : o.op = .call { callee := .builtin .append, args := #[s, x], argTypes := #[T, T] })
    (hs : a.eval s = .slice (some ⟨g, 0, none⟩) n cap) (hown : Own wr B g n cap L) (hX : Below C wr X) (hg : g < C) (E : Nat) (hE : X.heap.size = E) (hx : a.eval x = .slice (some ⟨E, 0, none⟩) 1 1) (hl : n ≤ 1000000) (hB : B ≤ wr.heap.size) (hBC : B ≤ C)
    (h : ∀ g' cap' w', Own w' B g' (n + 1) cap' (L ++ [(v1, v2, v3)]) → Below B wr w' → B ≤ g' → g' < w'.heap.size → (∀ b i, b < E → b ≠ g → w'.cell? ⟨b, i, none⟩ = (X.alloc (.cells #[.int .i64 v1, .int .i64 v2, .int .i64 v3] 94)).cell? ⟨b, i, none⟩) → wpList Tryz.prog ops Q rest (a.put o.dst (.slice (some ⟨g', 0, none⟩) (n + 1) cap')) w') : wpList Tryz.prog ops Q (o :: rest) a (X.alloc (.cells #[.int .i64 v1, .int .i64 v2, .int .i64 v3] 94)) := by
  subst hE
  have hb2 : Below B wr (X.alloc (.cells #[.int .i64 v1, .int .i64 v2, .int .i64 v3] 94)) := (hX.mono hBC).alloc (Nat.le_trans hB hX.size) _
  have hown1 := own_blk (own_blk hown hX hg) ((Below.refl X.heap.size X).alloc (Nat.le_refl _) (.cells #[.int .i64 v1, .int .i64 v2, .int .i64 v3] 94)) (own_lt (own_blk hown hX hg))
  obtain ⟨i0, hi, hz0, hz1, hz2⟩ := info_parts info44
  have hBg : B ≤ g := (hown.lt g rfl).1
  have hBs : B ≤ (X.alloc (.cells #[.int .i64 v1, .int .i64 v2, .int .i64 v3] 94)).heap.size := Nat.le_trans hB hb2.size
  refine wpList_append_lies _ hgd s x T ho B 94 i0 (.agg #[.int .i64 0, .int .i64 0, .int .i64 0]) 3 24 hT hi hz0 hz1 hz2 rfl (by decide) _ n (flK L) hs hown1 ⟨X.heap.size, 0, none⟩ 1 1 [iv v1, iv v2, iv v3] hx rfl (K_news (c := (v1, v2, v3)) (heap_alloc_new X _)) (by intro u hu; simp at hu; rcases hu with rfl | rfl | rfl <;> rfl) (by decide) (by unfold maxLen; omega) (by omega) hBs _ rfl ?_
  intro g' cap' w' h1 h2 h3 h4
  have ho' : Own w' B g' (n + 1) cap' (L ++ [(v1, v2, v3)]) := by show World.ownsRow _ _ _ _ _ _ _; rw [flK_append]; exact h1
  refine h g' cap' w' ho' ?_ (own_ge ho') (own_lt ho') ?_
  · exact hb2.trans ((Below.refl _ _).grown h2 hBs (fun k hk => by simp [Value.ownBlock] at hk; omega))
  · intro b i hb hne
    exact World.cell?_of_block (a := ⟨b, i, none⟩) (h2.block b (by simp; omega) (by simp [Value.ownBlock]; omega))

theorem pt_no {s i n f t q A B : Int} (hA : A = max f q) (hB : B = min t (q + n)) (h : ¬ A < B) : ptOne (s, i, n) (f - q) (t - q) = [] := by
  unfold ptOne
  rw [if_neg (by simp only; omega)]
theorem pt_gap {i n f t q A B : Int} (hA : A = max f q) (hB : B = min t (q + n)) (h : A < B) : ptOne (0, i, n) (f - q) (t - q) = [(0, 0, B - A)] := by
  unfold ptOne
  rw [if_pos (by simp only; omega)]
  have e : min (t - q) n - max (f - q) 0 = B - A := by omega
  simp only [if_true, e]
theorem pt_yes {s i n f t q A B : Int} (hA : A = max f q) (hB : B = min t (q + n)) (h : A < B) (hs : s ≠ 0) : ptOne (s, i, n) (f - q) (t - q) = [(s, i + A - q, B - A)] := by
  unfold ptOne
  rw [if_pos (by simp only; omega)]
  have e : min (t - q) n - max (f - q) 0 = B - A := by omega
  have e2 : i + max (f - q) 0 = i + A - q := by omega
  simp only [if_neg hs, e, e2]

/-- what the loops hold -/
def PR (w : World) (l : List Kl) (f t : Int) (k : Nat) (wr : World) (g c : Nat) : Prop := w.heap.size ≤ g ∧ Own wr w.heap.size g (part (l.take k) f t).length c (part (l.take k) f t) ∧ Below w.heap.size w wr
theorem pr_same {w wr w' : World} {l : List Kl} {f t : Int} {k g c : Nat} (h : PR w l f t k wr g c) (hp : part (l.take (k + 1)) f t = part (l.take k) f t) (hb : Below wr.heap.size wr w') : PR w l f t (k + 1) w' g c := by
  obtain ⟨h1, h2, h3⟩ := h
  refine ⟨h1, ?_, laterB h3 hb⟩
  rw [hp]
  exact ownsRow_below h2 hb
theorem pr_app {w w' : World} {l : List Kl} {f t : Int} {k g c m : Nat} {x : Kl} (hp : part (l.take (k + 1)) f t = part (l.take k) f t ++ [x]) (hm : m = (part (l.take k) f t).length) (h1 : w.heap.size ≤ g) (h2 : Own w' w.heap.size g (m + 1) c (part (l.take k) f t ++ [x])) (h3 : Below w.heap.size w w') : PR w l f t (k + 1) w' g c := by
  subst hm
  refine ⟨h1, ?_, h3⟩
  rw [hp]
  have e : (part (l.take k) f t ++ [x]).length = (part (l.take k) f t).length + 1 := by simp
  rw [e]
  exact h2

set_option maxHeartbeats 3200000 in
theorem spart_any (a : Option Addr) (cap : Nat) (l : List Kl) (f t : Int) (w : World) (hT : TOk l) (hf : 0 ≤ f ∧ f ≤ 30000000) (ht : 0 ≤ t ∧ t ≤ 30000000) (hk : Kls w a l) :
    Calls Tryz.prog 99 #[.slice a l.length cap, .int .i64 f, .int .i64 t] w fun e w' => ∃ g c, e = .returned (.slice (some ⟨g, 0, none⟩) (part l f t).length c) ∧ w.heap.size ≤ g ∧ Own w' w.heap.size g (part l f t).length c (part l f t) ∧ Below w.heap.size w w' := by
  have hk' := hide hk
  have hA' := hide hT.2.1
  have hl := hT.1
  have hL := hT.2.2
  obtain ⟨f0, f1⟩ := hf
  obtain ⟨t0, t1⟩ := ht
  clear hk hT
  have h0 := hide (show PR w l f t 0 (w.alloc (.cells #[] 94)) w.heap.size 0 from ⟨Nat.le_refl _, own_lit0 w (Nat.le_refl _), (Below.refl _ _).alloc (Nat.le_refl _) _⟩)
  go_enter Tryz.func99, Tryz.ntmps99
  go_wp2
  go_loopw [7, 8, 9] (fun s q t' wr => ∃ k g c : Nat, k ≤ l.length ∧ t' = .int .i64 k ∧ q = .int .i64 (clen (l.take k)) ∧ s = .slice (some ⟨g, 0, none⟩) (part (l.take k) f t).length c ∧ Hid (PR w l f t k wr g c)) (fun _ _ t' _ => l.length - (intOf t').toNat)
  case atStart => exact ⟨0, w.heap.size, 0, by omega, rfl, by simp [clen], rfl, h0⟩
  case round =>
    clear h0
    obtain ⟨k, g, cp, hk, rfl, rfl, rfl, hJ⟩ := hrel
    obtain ⟨b0, _⟩ := take_bd ((unhide hA').take k) hk
    have b1 := clen_take_le (unhide hA') k
    by_cases hlt : k < l.length
    · obtain ⟨b, o', s, i, n, rfl, hx, c0, c1, c2⟩ := kls_at (unhide hk') (unhide hJ).2.2 hlt
      have hcA := (unhide hA') _ (List.mem_of_getElem? hx)
      have hcl := hide (clen_take hx)
      have hps := hide (part_snoc hx f t)
      obtain ⟨n0, n1, i0, i1, _⟩ := hcA
      simp only at n0 n1 i0 i1
      clear hx
      obtain ⟨q, hq⟩ : ∃ q, q = clen (l.take k) := ⟨_, rfl⟩
      rw [← hq] at b0 b1 hcl hps ⊢
      obtain ⟨A, hA⟩ : ∃ A, A = max f q := ⟨_, rfl⟩
      obtain ⟨B, hB⟩ : ∃ B, B = min t (q + n) := ⟨_, rfl⟩
      obtain ⟨m, hm⟩ : ∃ m, m = (part (l.take k) f t).length := ⟨_, rfl⟩
      rw [← hm]
      have hmk : m ≤ 300 := by have := part_len (l.take k) f t; rw [List.length_take] at this; omega
      have hown : Hid (Own wr w.heap.size g m cp (part (l.take k) f t)) := hide (by rw [hm]; exact (unhide hJ).2.1)
      have hg0 := (unhide hJ).1
      have hglt : g < wr.heap.size := own_lt (unhide hJ).2.1
      have hwB := hide (unhide hJ).2.2
      have A0 : q ≤ A := by omega
      have A1 : A ≤ 30000000 := by omega
      have B0 : B ≤ 30000000 := by omega
      have B1 : 0 ≤ B := by omega
      have hA2 := hide hA
      have hB2 := hide hB
      have hm' := hide hm
      have hq' := hide hq
      clear hA hB hm hq
      go_wp2_with fail
      refine (max_any f q A _ (unhide hA2).symm).mono ?_
      rintro e w1 ⟨rfl, rfl⟩
      go_wp2_with fail
      refine (min_any t (q + n) B _ (unhide hB2).symm).mono ?_
      rintro e w1 ⟨rfl, rfl⟩
      by_cases hab : A < B
      · by_cases hs : s = 0
        · subst hs
          have hp2 := hide (show part (l.take (k + 1)) f t = part (l.take k) f t ++ [(0, 0, B - A)] by rw [unhide hps, pt_gap (unhide hA2) (unhide hB2) hab])
          go_wp2_with (at_builtin; refine wpList_kM Tryz.underlying36 (B := w.heap.size) (C := wr.heap.size) (wr := wr) (g := g) (n := m) (cap := cp) (L := part (l.take k) f t) rfl _ _ rfl rfl (unhide hown) (hX := by repeat first | exact Below.refl _ _ | refine Below.setCell ?_ (by simp <;> omega) _ | refine Below.alloc ?_ (by simp <;> omega) _) hglt (wr.heap.size + 1 + 1) (by simp) rfl (by omega) (by omega) (by omega) ?_)
          intro g' cap' w' hown' hbel' hg' hlt' hkp
          have hJ' := hide (show PR w l f t (k + 1) w' g' cap' from pr_app (unhide hp2) (unhide hm') hg' hown' ((unhide hwB).trans hbel'))
          have hsl := hide (show (part (l.take (k + 1)) f t).length = m + 1 by rw [unhide hp2]; simp [unhide hm'])
          have hn := (hkp wr.heap.size 2 (by omega) (by omega)).trans (show _ = some (.int .i64 n) by simp [go_sem])
          clear hkp hown' hbel' hown hJ
          go_wp2
          go_roundw
          case rel => exact ⟨k + 1, g', cap', by omega, by go_num, by rw [unhide hcl], by rw [unhide hsl], hJ'⟩
          case measure => simp [intOf]; omega
        · have hp2 := hide (show part (l.take (k + 1)) f t = part (l.take k) f t ++ [(s, i + A - q, B - A)] by rw [unhide hps, pt_yes (unhide hA2) (unhide hB2) hab hs])
          have hs' : (s == 0) = false := by simpa using hs
          clear hs
          go_wp2_with (at_builtin; refine wpList_kM Tryz.underlying36 (B := w.heap.size) (C := wr.heap.size) (wr := wr) (g := g) (n := m) (cap := cp) (L := part (l.take k) f t) rfl _ _ rfl rfl (unhide hown) (hX := by repeat first | exact Below.refl _ _ | refine Below.setCell ?_ (by simp <;> omega) _ | refine Below.alloc ?_ (by simp <;> omega) _) hglt (wr.heap.size + 1 + 1) (by simp) rfl (by omega) (by omega) (by omega) ?_)
          intro g' cap' w' hown' hbel' hg' hlt' hkp
          have hJ' := hide (show PR w l f t (k + 1) w' g' cap' from pr_app (unhide hp2) (unhide hm') hg' hown' ((unhide hwB).trans hbel'))
          have hsl := hide (show (part (l.take (k + 1)) f t).length = m + 1 by rw [unhide hp2]; simp [unhide hm'])
          have hn := (hkp wr.heap.size 2 (by omega) (by omega)).trans (show _ = some (.int .i64 n) by simp [go_sem])
          clear hkp hown' hbel' hown hJ
          go_wp2
          go_roundw
          case rel => exact ⟨k + 1, g', cap', by omega, by go_num, by rw [unhide hcl], by rw [unhide hsl], hJ'⟩
          case measure => simp [intOf]; omega
      · have hp2 := hide (show part (l.take (k + 1)) f t = part (l.take k) f t by rw [unhide hps, pt_no (unhide hA2) (unhide hB2) hab, List.append_nil])
        have hab' : decide (A < B) = false := by simpa using hab
        have hJ' := hide (pr_same (unhide hJ) (unhide hp2) (w' := wr.alloc (.cells #[.int .i64 s, .int .i64 i, .int .i64 n] 94)) ((Below.refl _ _).alloc (Nat.le_refl _) _))
        have hsl := hide (show (part (l.take (k + 1)) f t).length = m by rw [unhide hp2, unhide hm'])
        clear hJ hown hab
        go_wp2
        go_roundw
        case rel => exact ⟨k + 1, g, cp, by omega, by go_num, by rw [unhide hcl], by rw [unhide hsl], hJ'⟩
        case measure => simp [intOf]; omega
    · have hke : k = l.length := by omega
      have hlj := hide (show part (l.take k) f t = part l f t by rw [hke, List.take_length])
      rw [unhide hlj]
      have hJ2 : Hid (w.heap.size ≤ g ∧ Own wr w.heap.size g (part l f t).length cp (part l f t) ∧ Below w.heap.size w wr) := hide (by have := unhide hJ; unfold PR at this; rw [unhide hlj] at this; exact this)
      clear hJ
      go_wp2
      go_ret
      exact ⟨g, cp, rfl, (unhide hJ2).1, (unhide hJ2).2.1, (unhide hJ2).2.2⟩
end Go.Proofs.YtioaehjppiodfaaGreatDoor

namespace Go.Proofs.YtioaehjppiodfaaGreatDoor
open Go.RowKit
set_option linter.unusedVariables false
set_option linter.unusedSimpArgs false

/-- an owned list that may be nil -/
abbrev OwnV (w : World) (B : Nat) (v : Value) (l : List Kl) : Prop := w.ownsRow B 94 3 v l.length (flK l)
theorem ownV_kls {w : World} {B : Nat} {v : Value} {l : List Kl} (h : OwnV w B v l) : ∃ a c, v = .slice a l.length c ∧ Kls w a l ∧ (a = none → c = 0) := by
  rcases h.2 with ⟨hv, hn⟩ | ⟨g, cap, cur, hv, _⟩
  · have : l = [] := List.length_eq_zero_iff.1 hn
    subst this
    exact ⟨none, 0, hv, Kls.nil, fun _ => rfl⟩
  · subst hv
    exact ⟨_, _, rfl, kls_own h, fun h => by cases h⟩
theorem ownV_of {w : World} {B g cap : Nat} {l : List Kl} (h : Own w B g l.length cap l) : OwnV w B (.slice (some ⟨g, 0, none⟩) l.length cap) l := h
theorem flK_one (l : List Kl) : ∀ u ∈ flK l, u.oneCell' = true := by
  induction l with
  | nil => intro u hu; simp [flK] at hu
  | cons x l ih =>
    intro u hu
    simp only [flK, List.mem_cons] at hu
    rcases hu with rfl | rfl | rfl | hu
    · rfl
    · rfl
    · rfl
    · exact ih u hu
theorem kls_news {w : World} {b o : Nat} {l : List Kl} (h : Kls w (some ⟨b, o, none⟩) l) : ∀ j u, (flK l)[j]? = some u → w.cell? ((⟨b, o, none⟩ : Addr).add j) = some u := by
  intro j u hu
  have hj : j < (flK l).length := (List.getElem?_eq_some_iff.1 hu).1
  rw [flK_len] at hj
  have hk : j / 3 < l.length := by omega
  obtain ⟨x, hx⟩ : ∃ x, l[j / 3]? = some x := ⟨l[j / 3], List.getElem?_eq_getElem hk⟩
  obtain ⟨b', o', e, _, c0, c1, c2⟩ := h _ _ hx
  injection e with e
  injection e with e1 e2 _
  subst e1 e2
  obtain ⟨f0, f1, f2⟩ := flK_get hx
  rw [Addr.add_lit]
  have hr : j % 3 = 0 ∨ j % 3 = 1 ∨ j % 3 = 2 := by omega
  rcases hr with hr | hr | hr
  · have e : j / 3 * 3 = j := by omega
    rw [e] at c0 f0; rw [hu] at f0; injection f0 with f0; rw [f0]; exact c0
  · have e : j / 3 * 3 + 1 = j := by omega
    rw [Nat.add_assoc, e] at c1; rw [e] at f1; rw [hu] at f1; injection f1 with f1; rw [f1]; exact c1
  · have e : j / 3 * 3 + 2 = j := by omega
    rw [Nat.add_assoc, e] at c2; rw [e] at f2; rw [hu] at f2; injection f2 with f2; rw [f2]; exact c2

theorem wpList_apps {T : TypeId} (hT : Tryz.prog.underlying T = some (.slice 94)) {ops : Array Oper} {rest : List Oper} {o : Oper} {a : Act} {Q : Exit → Act → World → Prop} (w : World) (hgd : o.guard = none) (s x : Operand) (ho : o.op = .call { callee := .builtin .append, args := #[s, x], argTypes := #[T, T] })
    (B : Nat) (v : Value) (L1 L2 : List Kl) (a2 : Option Addr) (c2 : Nat) (hs : a.eval s = v) (hown : OwnV w B v L1) (hx : a.eval x = .slice a2 L2.length c2) (hK : Kls w a2 L2) (hn : a2 = none → c2 = 0) (hl1 : L1.length ≤ 1000000) (hl2 : L2.length ≤ 1000000) (hB : B ≤ w.heap.size)
    (h : ∀ v' w', OwnV w' B v' (L1 ++ L2) → Below B w w' → w.grownBy w' v.ownBlock → wpList Tryz.prog ops Q rest (a.put o.dst v') w') : wpList Tryz.prog ops Q (o :: rest) a w := by
  obtain ⟨i0, hi, hz0, hz1, hz2⟩ := info_parts info44
  have hBel : ∀ w', w.grownBy w' v.ownBlock → Below B w w' := fun w' hg => (Below.refl _ _).grown hg hB (fun k hk => (hown.lt k hk).1)
  have hfin : ∀ v' w', w'.ownsRow B 94 3 v' (L1.length + L2.length) (flK L1 ++ flK L2) → OwnV w' B v' (L1 ++ L2) := by
    intro v' w' h1
    show World.ownsRow _ _ _ _ _ _ _
    rw [flK_append, List.length_append]; exact h1
  match a2, L2, hx, hK, hn, hl2, h, hfin with
  | none, [], hx, hK, hn, hl2, h, hfin =>
    rw [hn rfl] at hx
    refine wpList_append_own_none hgd s x T ho B 94 i0 3 hT hi v L1.length (flK L1) hs hown hx ?_
    have := h v w (by rw [List.append_nil]; exact hown) (Below.refl _ _) ⟨rfl, rfl, rfl, Nat.le_refl _, fun _ _ _ => rfl⟩
    exact this
  | none, y :: L2, hx, hK, hn, hl2, h, hfin =>
    obtain ⟨b, o, e, _⟩ := hK 0 y rfl
    cases e
  | some ad, L2, hx, hK, hn, hl2, h, hfin =>
    cases L2 with
    | nil =>
      refine wpList_append_own _ hgd s x T ho B 94 i0 (.agg #[.int .i64 0, .int .i64 0, .int .i64 0]) 3 24 hT hi hz0 hz1 hz2 rfl (by decide) v L1.length (flK L1) hs hown ad 0 c2 [] hx rfl (fun j u hu => by simp at hu) (fun u hu => by simp at hu) (by unfold maxLen; omega) (by omega) hB ?_
      intro v' w' h1 h2 _
      exact h v' w' (hfin v' w' h1) (hBel w' h2) h2
    | cons y L2 =>
      obtain ⟨b, o', e, _⟩ := hK 0 y rfl
      injection e with e
      subst e
      refine wpList_append_own _ hgd s x T ho B 94 i0 (.agg #[.int .i64 0, .int .i64 0, .int .i64 0]) 3 24 hT hi hz0 hz1 hz2 rfl (by decide) v L1.length (flK L1) hs hown ⟨b, o', none⟩ (y :: L2).length c2 (flK (y :: L2)) hx (flK_len _) (kls_news hK) (flK_one _) (by unfold maxLen; omega) (by omega) hB ?_
      intro v' w' h1 h2 _
      exact h v' w' (hfin v' w' h1) (hBel w' h2) h2

end Go.Proofs.YtioaehjppiodfaaGreatDoor

namespace Go.Proofs.YtioaehjppiodfaaGreatDoor
open Go.RowKit
set_option linter.unusedVariables false
set_option linter.unusedSimpArgs false

/-- an edit's answer in memory -/
def EdR (w w' : World) (r : Option (List Kl)) (e : Ending) : Prop :=
  ∃ g c, e = .returned (.tuple #[.slice (some ⟨g, 0, none⟩) (outL r).length c, .bool r.isSome]) ∧ w.heap.size ≤ g ∧ Own w' w.heap.size g (outL r).length c (outL r) ∧ Below w.heap.size w w'
theorem edR_none {w wx : World} {r : Option (List Kl)} (hr : r = none) (hb : Below w.heap.size w wx) : EdR w (wx.alloc (.cells #[] 94)) r (.returned (.tuple #[.slice (some ⟨wx.heap.size, 0, none⟩) 0 0, .bool false])) := by
  subst hr
  exact ⟨wx.heap.size, 0, rfl, hb.size, own_lit0 wx hb.size, hb.alloc hb.size _⟩
theorem edR_from {w w1 w2 : World} {r : Option (List Kl)} {e : Ending} (h : EdR w1 w2 r e) (hb : Below w.heap.size w w1) : EdR w w2 r e := by
  obtain ⟨g, c, he, h1, h2, h3⟩ := h
  have := hb.size
  exact ⟨g, c, he, by omega, own_mono h2 (by omega), hb.trans (h3.mono (by omega))⟩

end Go.Proofs.YtioaehjppiodfaaGreatDoor
