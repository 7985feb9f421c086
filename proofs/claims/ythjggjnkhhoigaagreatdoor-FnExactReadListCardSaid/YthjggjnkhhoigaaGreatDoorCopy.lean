/-
  Contracts of the law's functions that weigh, copy and hold against each other lists of clips, write marks into them and look for them again.
-/
import Derived.Test.YthjggjnkhhoigaaGreatDoorMem
namespace Go.Proofs.YthjggjnkhhoigaaGreatDoor
open Go.RowKit
set_option linter.unusedVariables false
set_option linter.unusedSimpArgs false

/-- the copy's list as it stands: the first are there, nought behind them -/
def mid (l : List Kl) (n k : Nat) : List Kl := l.take k ++ List.replicate (n - k) (0, 0, 0)
theorem mid_len {l : List Kl} {n k : Nat} (hl : l.length = n) (hk : k ≤ n) : (mid l n k).length = n := by simp [mid]; omega
theorem mid_set {l : List Kl} {n k : Nat} {x : Kl} (hl : l.length = n) (h : l[k]? = some x) : (mid l n k).set k x = mid l n (k + 1) := by
  have hk : k < l.length := (List.getElem?_eq_some_iff.1 h).1
  unfold mid
  rw [take_snocK h, List.set_append_right _ _ (by simp; omega)]
  have e : n - k = (n - (k + 1)) + 1 := by omega
  rw [e, List.replicate_succ]
  have e2 : k - (l.take k).length = 0 := by simp; omega
  rw [e2]; simp
theorem flK_rep (n : Nat) : flK (List.replicate n (0, 0, 0)) = List.replicate (n * 3) (iv 0) := by
  induction n with
  | zero => rfl
  | succ n ih =>
    have e : (n + 1) * 3 = n * 3 + 1 + 1 + 1 := by omega
    rw [e, List.replicate_succ, List.replicate_succ, List.replicate_succ, List.replicate_succ, ← ih]
    rfl
theorem made_flK (n : Nat) : (madeCells #[.int .i64 0, .int .i64 0, .int .i64 0] (n * 3)).toList = flK (List.replicate n (0, 0, 0)) := by
  rw [flK_rep]
  apply List.ext_getElem
  · simp [madeCells]
  · intro i h1 h2
    simp [madeCells, iv]
    have : i % 3 = 0 ∨ i % 3 = 1 ∨ i % 3 = 2 := by omega
    rcases this with h | h | h <;> simp [h]

set_option maxHeartbeats 800000 in
theorem eqk_any (a1 a2 a3 b1 b2 b3 : Int) (w : World) (h : (a1, a2, a3) = (b1, b2, b3)) : Calls Tryz.prog 15 #[.agg #[.int .i64 a1, .int .i64 a2, .int .i64 a3], .agg #[.int .i64 b1, .int .i64 b2, .int .i64 b3]] w fun e w' => e = .returned (.bool true) ∧ Below w.heap.size w w' := by
  injection h with h1 h2
  injection h2 with h2 h3
  subst h1 h2 h3
  have e1 : (a1 != a1) = false := by simp
  have e2 : (a2 != a2) = false := by simp
  have e3 : (a3 != a3) = false := by simp
  go_enter Tryz.func15, Tryz.ntmps15
  go_wp2
  go_ret
  exact ⟨rfl, ((Below.refl _ _).alloc (Nat.le_refl _) _).alloc (by simp) _⟩

theorem keep6 {w w0 w1 : World} {a1 a2 a3 a4 a5 a6 : Addr} {v1 v2 v3 v4 v5 v6 : Value}
    (h : w0.cell? a1 = some v1 ∧ w0.cell? a2 = some v2 ∧ w0.cell? a3 = some v3 ∧ w0.cell? a4 = some v4 ∧ w0.cell? a5 = some v5 ∧ w0.cell? a6 = some v6 ∧ Below w.heap.size w w0) (hb : Below w0.heap.size w0 w1) :
    w1.cell? a1 = some v1 ∧ w1.cell? a2 = some v2 ∧ w1.cell? a3 = some v3 ∧ w1.cell? a4 = some v4 ∧ w1.cell? a5 = some v5 ∧ w1.cell? a6 = some v6 ∧ Below w.heap.size w w1 := by
  obtain ⟨h1, h2, h3, h4, h5, h6, h7⟩ := h
  exact ⟨cell_later hb h1, cell_later hb h2, cell_later hb h3, cell_later hb h4, cell_later hb h5, cell_later hb h6, h7.trans (hb.mono h7.size)⟩
theorem keep6d {w w0 : World} {a1 a2 a3 a4 a5 a6 : Addr} {v1 v2 v3 v4 v5 v6 : Value}
    (h : w0.cell? a1 = some v1 ∧ w0.cell? a2 = some v2 ∧ w0.cell? a3 = some v3 ∧ w0.cell? a4 = some v4 ∧ w0.cell? a5 = some v5 ∧ w0.cell? a6 = some v6 ∧ Below w.heap.size w w0) :
    w0.drew.cell? a1 = some v1 ∧ w0.drew.cell? a2 = some v2 ∧ w0.drew.cell? a3 = some v3 ∧ w0.drew.cell? a4 = some v4 ∧ w0.drew.cell? a5 = some v5 ∧ w0.drew.cell? a6 = some v6 ∧ Below w.heap.size w w0.drew := by
  obtain ⟨h1, h2, h3, h4, h5, h6, h7⟩ := h
  exact ⟨h1, h2, h3, h4, h5, h6, h7.drew⟩

set_option maxHeartbeats 1600000 in
theorem eqks_any (a b : Option Addr) (ca cb : Nat) (l : List Kl) (w : World) (hl : l.length ≤ 1048576) (ha : Kls w a l) (hb : Kls w b l) :
    Calls Tryz.prog 7 #[.slice a l.length ca, .slice b l.length cb] w fun e w' => e = .returned (.bool true) ∧ Below w.heap.size w w' := by
  have ha' := hide ha
  have hb' := hide hb
  clear ha hb
  have hne : ((l.length : Int) != l.length) = false := by simp
  go_enter Tryz.func7, Tryz.ntmps7
  go_wp2
  go_loopw [5] (fun t wr => ∃ k : Nat, k ≤ l.length ∧ t = .int .i64 k ∧ Below w.heap.size w wr) (fun t _ => l.length - (intOf t).toNat)
  case atStart => exact ⟨0, by omega, rfl, Below.refl _ _⟩
  case round =>
    obtain ⟨k, hk, rfl, hw⟩ := hrel
    by_cases hlt : k < l.length
    · obtain ⟨x, hx⟩ : ∃ x, l[k]? = some x := ⟨l[k], List.getElem?_eq_getElem hlt⟩
      obtain ⟨b1, o1, rfl, i1, c0, c1, c2⟩ := unhide ha' k x hx
      obtain ⟨b2, o2, rfl, i2, e0, e1, e2⟩ := unhide hb' k x hx
      have C := fun o => (bcell hw).1 b1 o i1
      have E := fun o => (bcell hw).1 b2 o i2
      obtain ⟨x1, x2, x3⟩ := x
      have hall : Hid (wr.cell? ⟨b1, o1 + k * 3, none⟩ = some (.int .i64 x1) ∧ wr.cell? ⟨b1, o1 + k * 3 + 1, none⟩ = some (.int .i64 x2) ∧ wr.cell? ⟨b1, o1 + k * 3 + 2, none⟩ = some (.int .i64 x3) ∧ wr.cell? ⟨b2, o2 + k * 3, none⟩ = some (.int .i64 x1) ∧ wr.cell? ⟨b2, o2 + k * 3 + 1, none⟩ = some (.int .i64 x2) ∧ wr.cell? ⟨b2, o2 + k * 3 + 2, none⟩ = some (.int .i64 x3) ∧ Below w.heap.size w wr) := hide ⟨(C _).trans c0, (C _).trans c1, (C _).trans c2, (E _).trans e0, (E _).trans e1, (E _).trans e2, hw⟩
      have hw' := hide hw
      clear hx c0 c1 c2 e0 e1 e2 hw C E
      go_wp2_with fail
      go_region_held3 (fun w' => w'.cell? ⟨b1, o1 + k * 3, none⟩ = some (.int .i64 x1) ∧ w'.cell? ⟨b1, o1 + k * 3 + 1, none⟩ = some (.int .i64 x2) ∧ w'.cell? ⟨b1, o1 + k * 3 + 2, none⟩ = some (.int .i64 x3) ∧ w'.cell? ⟨b2, o2 + k * 3, none⟩ = some (.int .i64 x1) ∧ w'.cell? ⟨b2, o2 + k * 3 + 1, none⟩ = some (.int .i64 x2) ∧ w'.cell? ⟨b2, o2 + k * 3 + 2, none⟩ = some (.int .i64 x3) ∧ Below w.heap.size w w')
        (first | (refine keep6 ?_ hb; assumption) | (exact keep6d (unhide hall)))
        ((go_at_call 15; refine (eqk_any x1 x2 x3 x1 x2 x3 _ rfl).mono ?_; rintro e w1 ⟨rfl, hb⟩))
      go_wp2
      go_roundw
      case rel => exact ⟨k + 1, by omega, by go_num, by rename_i hH; exact hH.2.2.2.2.2.2⟩
      case measure => simp [intOf]; omega
    · have hke : k = l.length := by omega
      go_wp2
      go_ret
      exact ⟨rfl, hw⟩

/-- the first i cells bear the marks from q on -/
def Mkd (q : Int) (i : Nat) (xs : List Value) : Prop := ∀ j, j < i → xs[j]? = some (iv (q + j))
theorem Mkd.set {q : Int} {i : Nat} {xs : List Value} (h : Mkd q i xs) (hi : i < xs.length) : Mkd q (i + 1) (xs.set i (iv (q + i))) := by
  intro j hj
  by_cases e : j = i
  · subst e; simp [hi]
  · rw [List.getElem?_set_ne (by omega)]; exact h j (by omega)
theorem grown_refl (w : World) (g : Option Nat) : w.grownBy w g := ⟨rfl, rfl, rfl, Nat.le_refl _, fun _ _ _ => rfl⟩
theorem grown_trans {w w1 w2 : World} {g : Option Nat} (h : w.grownBy w1 g) (k : w1.grownBy w2 g) : w.grownBy w2 g :=
  ⟨k.os.trans h.os, k.tape.trans h.tape, k.output.trans h.output, Nat.le_trans h.size k.size, fun j hj hn => (k.block j (Nat.lt_of_lt_of_le hj h.size) hn).trans (h.block j hj hn)⟩
theorem grown_set {w w1 : World} {g i : Nat} {v : Value} (h : w.grownBy w1 (some g)) : w.grownBy (w1.setCell ⟨g, i, none⟩ v) (some g) :=
  grown_trans h ⟨rfl, rfl, rfl, by simp, fun j hj hn => by
    have hg : g ≠ j := fun e => hn (by rw [e])
    simp [World.setCell, Array.getElem?_modify, hg]⟩
theorem own_at {w : World} {B g n m cap i : Nat} {e : TypeId} {xs : List Value} (h : w.ownsRow B e m (.slice (some ⟨g, 0, none⟩) n cap) n xs) (hi : i < n * m) : ∃ v, w.cell? ⟨g, i, none⟩ = some v ∧ w.frozen? ⟨g, i, none⟩ = false ∧ xs[i]? = some v ∧ xs.length = n * m := by
  have hl : xs.length = n * m := h.1
  have hc := h.cellAt i hi
  exact ⟨xs[i]'(by omega), by rw [hc, List.getElem?_eq_getElem (by omega)], h.frozenAt i, List.getElem?_eq_getElem (by omega), hl⟩
theorem mark_three {wr : World} {B g n cap k : Nat} {q : Int} {ys : List Value} (hlt : k < n) (hy : wr.ownsRow B 37 3 (.slice (some ⟨g, 0, none⟩) n cap) n ys) (hm : Mkd q (k * 3) ys) :
    ∃ ys, (((wr.setCell ⟨g, k * 3, none⟩ (.int .i64 (q + k * 3))).setCell ⟨g, k * 3 + 1, none⟩ (.int .i64 (q + k * 3 + 1))).setCell ⟨g, k * 3 + 2, none⟩ (.int .i64 (q + k * 3 + 1 + 1))).ownsRow B 37 3 (.slice (some ⟨g, 0, none⟩) n cap) n ys ∧ Mkd q ((k + 1) * 3) ys := by
  have hl : ys.length = n * 3 := hy.1
  have h1 := (hy.stored (k * 3) (iv (q + ((k * 3 : Nat) : Int)))).1
  have m1 := hm.set (by omega)
  have h2 := (h1.stored (k * 3 + 1) (iv (q + ((k * 3 + 1 : Nat) : Int)))).1
  have m2 := m1.set (by rw [List.length_set]; omega)
  have h3 := (h2.stored (k * 3 + 2) (iv (q + ((k * 3 + 2 : Nat) : Int)))).1
  have m3 := m2.set (by rw [List.length_set, List.length_set]; omega)
  have e1 : q + ((k * 3 : Nat) : Int) = q + k * 3 := by omega
  have e2 : q + ((k * 3 + 1 : Nat) : Int) = q + k * 3 + 1 := by omega
  have e3 : q + ((k * 3 + 2 : Nat) : Int) = q + k * 3 + 1 + 1 := by omega
  have e4 : q + ((k * 3 + 1 + 1 : Nat) : Int) = q + k * 3 + 1 + 1 := by omega
  have e5 : (k + 1) * 3 = k * 3 + 1 + 1 + 1 := by omega
  rw [e1, e2, e3] at h3
  rw [e1, e2, e4] at m3
  rw [e5]
  exact ⟨_, h3, m3⟩

set_option maxHeartbeats 800000 in
theorem markk_any (B g n cap : Nat) (q : Int) (xs : List Value) (w : World) (hn : n ≤ 10000000) (q0 : 0 ≤ q) (q1 : q ≤ 100000000) (h : w.ownsRow B 37 3 (.slice (some ⟨g, 0, none⟩) n cap) n xs) :
    Calls Tryz.prog 9 #[.slice (some ⟨g, 0, none⟩) n cap, .int .i64 q] w fun e w' => e = .returned (.int .i64 (q + n * 3)) ∧ (∃ ys, w'.ownsRow B 37 3 (.slice (some ⟨g, 0, none⟩) n cap) n ys ∧ Mkd q (n * 3) ys) ∧ w.grownBy w' (some g) := by
  have h' := hide h
  clear h
  go_enter Tryz.func9, Tryz.ntmps9
  go_wp2
  go_loopw [1, 5] (fun s t wr => ∃ k : Nat, k ≤ n ∧ t = .int .i64 k ∧ s = .int .i64 (q + k * 3) ∧ Hid (∃ ys, wr.ownsRow B 37 3 (.slice (some ⟨g, 0, none⟩) n cap) n ys ∧ Mkd q (k * 3) ys) ∧ Hid (w.grownBy wr (some g))) (fun _ t _ => n - (intOf t).toNat)
  case atStart => exact ⟨0, by omega, rfl, by simp, hide ⟨xs, unhide h', fun j hj => by omega⟩, hide (grown_refl _ _)⟩
  case round =>
    obtain ⟨k, hk, rfl, rfl, hown, hg⟩ := hrel
    by_cases hlt : k < n
    · obtain ⟨ys, hy, hm⟩ := unhide hown
      obtain ⟨v, c0, f0, _, hl⟩ := own_at (i := k * 3) hy (by omega)
      obtain ⟨v', c1, f1, _, _⟩ := own_at (i := k * 3 + 1) hy (by omega)
      obtain ⟨v'', c2, f2, _, _⟩ := own_at (i := k * 3 + 2) hy (by omega)
      have hnew := hide (mark_three hlt hy hm)
      clear hown hy hm hl
      go_wp2
      go_roundw
      case rel => exact ⟨k + 1, by omega, by go_num, by go_num, hnew, hide (grown_set (grown_set (grown_set (unhide hg))))⟩
      case measure => simp [intOf]; omega
    · have hke : k = n := by omega
      have hf : Hid (∃ ys, wr.ownsRow B 37 3 (.slice (some ⟨g, 0, none⟩) n cap) n ys ∧ Mkd q (n * 3) ys) := hide (by have := unhide hown; rw [hke] at this; exact this)
      clear hown
      go_wp2
      go_ret
      exact ⟨ret_int (by omega), unhide hf, unhide hg⟩

set_option maxHeartbeats 800000 in
theorem heldk_any (B g n cap : Nat) (q : Int) (xs : List Value) (w : World) (hn : n ≤ 10000000) (q0 : 0 ≤ q) (q1 : q ≤ 100000000) (h : w.ownsRow B 37 3 (.slice (some ⟨g, 0, none⟩) n cap) n xs) (hm : Mkd q (n * 3) xs) :
    Calls Tryz.prog 10 #[.slice (some ⟨g, 0, none⟩) n cap, .int .i64 q] w fun e w' => e = .returned (.int .i64 (q + n * 3)) ∧ w' = w := by
  have h' := hide h
  have hm' := hide hm
  clear h hm
  go_enter Tryz.func10, Tryz.ntmps10
  go_wp2
  go_loop [1, 5] (fun s t => ∃ k : Nat, k ≤ n ∧ t = .int .i64 k ∧ s = .int .i64 (q + k * 3)) (fun _ t => n - (intOf t).toNat)
  case atStart => exact ⟨0, by omega, rfl, by simp⟩
  case round =>
    obtain ⟨k, hk, rfl, rfl⟩ := hrel
    by_cases hlt : k < n
    · obtain ⟨v, c0, f0, hv, hl⟩ := own_at (i := k * 3) (unhide h') (by omega)
      obtain ⟨v', c1, f1, hv', _⟩ := own_at (i := k * 3 + 1) (unhide h') (by omega)
      obtain ⟨v'', c2, f2, hv'', _⟩ := own_at (i := k * 3 + 2) (unhide h') (by omega)
      rw [unhide hm' (k * 3) (by omega)] at hv
      rw [unhide hm' (k * 3 + 1) (by omega)] at hv'
      rw [unhide hm' (k * 3 + 2) (by omega)] at hv''
      cases hv
      cases hv'
      cases hv''
      have e1 : q + ((k * 3 : Nat) : Int) = q + k * 3 := by omega
      have e2 : q + ((k * 3 + 1 : Nat) : Int) = q + k * 3 + 1 := by omega
      have e3 : q + ((k * 3 + 2 : Nat) : Int) = q + k * 3 + 2 := by omega
      rw [e1] at c0
      rw [e2] at c1
      rw [e3] at c2
      have s0 : ((q + k * 3) != (q + k * 3)) = false := by simp
      have s1 : ((q + k * 3 + 1) != (q + k * 3 + 1)) = false := by simp
      have s2 : ((q + k * 3 + 2) != (q + k * 3 + 2)) = false := by simp
      clear f0 f1 f2 hl e1 e2 e3
      go_wp2
      go_round
      case rel => exact ⟨k + 1, by omega, by go_num, by go_num⟩
      case measure => simp [intOf]; omega
    · have hke : k = n := by omega
      go_wp2
      go_ret
      exact ⟨ret_int (by omega), rfl⟩

end Go.Proofs.YthjggjnkhhoigaaGreatDoor
