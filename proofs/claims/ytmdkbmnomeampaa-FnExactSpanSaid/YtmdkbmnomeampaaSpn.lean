/-
  Contracts of Span, the program's and the model's: the greatest To of at most 200 runs; nothing that was there is written.
-/
import Derived.Test.YtmdkbmnomeampaaCopyL
namespace Go.Proofs.Ytmdkbmnomeampaa
open Go.RowKit
set_option linter.unusedVariables false
set_option linter.unusedSimpArgs false

/-- the greatest To -/
def top : List Kl → Int
  | [] => 0
  | x :: l => l.foldl (fun m y => max m y.2.2.2) x.2.2.2
theorem top_one (x : Kl) : top [x] = x.2.2.2 := rfl
theorem top_snoc {l : List Kl} (x : Kl) (h : l ≠ []) : top (l ++ [x]) = max (top l) x.2.2.2 := by
  cases l with
  | nil => exact absurd rfl h
  | cons y l => simp [top, List.foldl_append]
theorem top_take {l : List Kl} {k : Nat} {x : Kl} (h : l[k]? = some x) (hk : 0 < k) : top (l.take (k + 1)) = max (top (l.take k)) x.2.2.2 := by
  rw [take_snocK h]
  refine top_snoc x ?_
  have hj : k < l.length := (List.getElem?_eq_some_iff.1 h).1
  intro e
  have := congrArg List.length e
  rw [List.length_take] at this
  simp only [List.length_nil] at this
  omega
theorem top_take0 {l : List Kl} {x : Kl} (h : l[0]? = some x) : top (l.take 1) = x.2.2.2 := by
  rw [take_snocK h]; rfl
def spanOf (l : List Kl) : Int := if l.length ≤ 200 then top l else 0

theorem kls_at {w wr : World} {a : Option Addr} {l : List Kl} {k : Nat} (h : Kls w a l) (hw : Below w.heap.size w wr) (hk : k < l.length) : ∃ b o x, a = some ⟨b, o, none⟩ ∧ l[k]? = some x ∧ b < w.heap.size ∧ wr.cell? ⟨b, o + k * 4, none⟩ = some (.int .i64 x.1) ∧ wr.cell? ⟨b, o + k * 4 + 1, none⟩ = some (.int .i64 x.2.1) ∧ wr.cell? ⟨b, o + k * 4 + 2, none⟩ = some (.int .i64 x.2.2.1) ∧ wr.cell? ⟨b, o + k * 4 + 3, none⟩ = some (.int .i64 x.2.2.2) := by
  obtain ⟨b, o, e, h1, c0, c1, c2, c3⟩ := h k l[k] (List.getElem?_eq_getElem hk)
  have C := fun i => (bcell hw).1 b i h1
  exact ⟨b, o, _, e, List.getElem?_eq_getElem hk, h1, (C _).trans c0, (C _).trans c1, (C _).trans c2, (C _).trans c3⟩

set_option maxHeartbeats 1600000 in
theorem ispan_any (a : Option Addr) (cap : Nat) (l : List Kl) (w : World) (hl : l.length ≤ 1048576) (hr : Kls w a l) :
    Calls Try.prog 15 #[.slice a l.length cap] w fun e w' => e = .returned (.int .i64 (spanOf l)) ∧ Below w.heap.size w w' := by
  have hr' := hide hr
  clear hr
  by_cases h0 : l.length = 0
  · have e0 : l = [] := List.eq_nil_of_length_eq_zero h0
    subst e0
    go_enter Try.func15, Try.ntmps15
    go_wp2
    go_ret
    exact ⟨rfl, Below.refl _ _⟩
  by_cases h2 : 200 < l.length
  · have g0 : ((l.length : Int) == 0) = false := by rw [beq_eq_false_iff_ne]; omega
    have g1 : decide ((200 : Int) < l.length) = true := by simp; omega
    have hf := hide (show spanOf l = 0 from if_neg (by omega))
    have h2' := hide h2
    have h0' := hide h0
    clear h0 h2
    go_enter Try.func15, Try.ntmps15
    go_wp2
    go_ret
    exact ⟨ret_int (unhide hf).symm, Below.refl _ _⟩
  have g0 : ((l.length : Int) == 0) = false := by rw [beq_eq_false_iff_ne]; omega
  have g1 : decide ((200 : Int) < l.length) = false := by simp; omega
  have g2 : 0 < l.length := by omega
  obtain ⟨b, o, x0, rfl, hx0, hb, _, _, _, c3⟩ := kls_at (unhide hr') (Below.refl _ _) g2
  simp only [Nat.zero_mul, Nat.add_zero] at c3
  have hx0' := hide hx0
  clear hx0
  have hf := hide (show spanOf l = top l from if_pos (by omega))
  go_enter Try.func15, Try.ntmps15
  go_wp2
  go_loopw [3, 20] (fun s t wr => ∃ (k : Nat) (q : Int), k ≤ l.length ∧ t = .int .i64 k ∧ s = .int .i64 q ∧ Hid (q = if k = 0 then x0.2.2.2 else top (l.take k)) ∧ Hid (Below w.heap.size w wr)) (fun _ t _ => l.length - (intOf t).toNat)
  case atStart => exact ⟨0, _, by omega, rfl, rfl, hide (if_pos rfl).symm, hide (Below.refl _ _)⟩
  case round =>
    obtain ⟨k, q, hk, rfl, rfl, hq, hw⟩ := hrel
    by_cases hlt : k < l.length
    · obtain ⟨b1, o1, x, e1, hx, i1, c0, c1, c2, c3⟩ := kls_at (unhide hr') (unhide hw) hlt
      injection e1 with e1
      injection e1 with e1 e2
      subst e1 e2
      have hn : Hid (max q x.2.2.2 = if k + 1 = 0 then x0.2.2.2 else top (l.take (k + 1))) := hide (by
        rw [if_neg (by omega)]
        by_cases e : k = 0
        · subst e
          have h1 := unhide hx0'
          rw [hx] at h1
          injection h1 with h1
          have h2 := unhide hq
          rw [if_pos rfl] at h2
          have h3 : top (l.take (0 + 1)) = x.2.2.2 := top_take0 hx
          rw [h3, h2, h1]
          omega
        · have h2 := unhide hq
          rw [if_neg e] at h2
          rw [top_take hx (by omega), h2])
      clear hx hq i1
      go_wp2
      go_roundw
      case rel => exact ⟨k + 1, _, by omega, by go_num, rfl, hn, hide ((unhide hw).alloc (unhide hw).size _)⟩
      case measure => simp [intOf]; omega
    · have hke : k = l.length := by omega
      have hfin : Hid (q = spanOf l) := hide (by
        have h2 := unhide hq
        rw [if_neg (by omega), hke, List.take_length] at h2
        rw [h2, unhide hf])
      clear hq hke
      go_wp2
      go_ret
      exact ⟨ret_int (unhide hfin), unhide hw⟩

set_option maxHeartbeats 1600000 in
theorem sspan_any (a : Option Addr) (cap : Nat) (l : List Kl) (w : World) (hl : l.length ≤ 1048576) (hr : Kls w a l) :
    Calls Try.prog 32 #[.slice a l.length cap] w fun e w' => e = .returned (.int .i64 (spanOf l)) ∧ Below w.heap.size w w' := by
  have hr' := hide hr
  clear hr
  have g1 : decide ((l.length : Int) ≤ 200) = decide (l.length ≤ 200) := by
    by_cases h : l.length ≤ 200
    · rw [decide_eq_true h, decide_eq_true (by omega)]
    · rw [decide_eq_false h, decide_eq_false (by omega)]
  by_cases h2 : l.length ≤ 200
  · rw [decide_eq_true h2] at g1
    have hf := hide (show spanOf l = top l from if_pos h2)
    go_enter Try.func32, Try.ntmps32
    go_wp2
    go_loopw [3, 4] (fun s t wr => ∃ (k : Nat) (q : Int), k ≤ l.length ∧ t = .int .i64 k ∧ s = .int .i64 q ∧ Hid (q = top (l.take k)) ∧ Hid (Below w.heap.size w wr)) (fun _ t _ => l.length - (intOf t).toNat)
    case atStart => exact ⟨0, _, by omega, rfl, rfl, hide rfl, hide (Below.refl _ _)⟩
    case round =>
      obtain ⟨k, q, hk, rfl, rfl, hq, hw⟩ := hrel
      by_cases hlt : k < l.length
      · obtain ⟨b1, o1, x, rfl, hx, i1, c0, c1, c2, c3⟩ := kls_at (unhide hr') (unhide hw) hlt
        have gl : decide ((k : Int) < l.length) = true := by simp; omega
        by_cases e : k = 0
        · have ge : ((k : Int) == 0) = true := by simp; omega
          have hn : Hid (x.2.2.2 = top (l.take (k + 1))) := hide (by subst e; exact (top_take0 hx).symm)
          clear hx hq i1 e
          go_wp2
          go_roundw
          case rel => exact ⟨k + 1, _, by omega, by go_num, rfl, hn, hw⟩
          case measure => simp [intOf]; omega
        · have ge : ((k : Int) == 0) = false := by simp; omega
          have ht := hide (show top (l.take (k + 1)) = max q x.2.2.2 by rw [top_take hx (by omega), unhide hq])
          by_cases hm : q < x.2.2.2
          · have hn : Hid (x.2.2.2 = top (l.take (k + 1))) := hide (by rw [unhide ht]; omega)
            clear hx hq i1 e
            go_wp2
            go_roundw
            case rel => exact ⟨k + 1, _, by omega, by go_num, rfl, hn, hw⟩
            case measure => simp [intOf]; omega
          · have hn : Hid (q = top (l.take (k + 1))) := hide (by rw [unhide ht]; omega)
            clear hx hq i1 e
            go_wp2
            go_roundw
            case rel => exact ⟨k + 1, _, by omega, by go_num, rfl, hn, hw⟩
            case measure => simp [intOf]; omega
      · have gl : decide ((k : Int) < l.length) = false := by simp; omega
        have hke : k = l.length := by omega
        have hfin : Hid (q = spanOf l) := hide (by
          have h2 := unhide hq
          rw [hke, List.take_length] at h2
          rw [h2, unhide hf])
        clear hq hke
        go_wp2
        go_ret
        exact ⟨ret_int (unhide hfin), unhide hw⟩
  · rw [decide_eq_false h2] at g1
    have hf := hide (show spanOf l = 0 from if_neg h2)
    have gl : decide ((0 : Int) < l.length) = true := decide_eq_true (by omega)
    have gn : 0 < l.length := by omega
    have h2' := hide h2
    clear h2
    go_enter Try.func32, Try.ntmps32
    go_wp2
    go_loopw [3, 4] (fun s t wr => t = .int .i64 0 ∧ s = .int .i64 0 ∧ wr = w) (fun _ t _ => 0)
    case atStart => exact ⟨rfl, rfl, rfl⟩
    case round =>
      obtain ⟨rfl, rfl, rfl⟩ := hrel
      go_wp2
      go_ret
      exact ⟨ret_int (unhide hf).symm, Below.refl _ _⟩

end Go.Proofs.Ytmdkbmnomeampaa
