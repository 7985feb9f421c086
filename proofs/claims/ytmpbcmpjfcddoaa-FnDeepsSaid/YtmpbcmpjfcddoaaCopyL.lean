/-
  Contracts of the law's functions that weigh, copy and hold against each other lists of structs, write marks into them and look for them again.
-/
import Derived.Test.YtmpbcmpjfcddoaaMemL
namespace Go.Proofs.Ytmpbcmpjfcddoaa
open Go.RowKit
set_option linter.unusedVariables false
set_option linter.unusedSimpArgs false
namespace D

set_option maxHeartbeats 400000 in
theorem szk_any (a : Option Addr) (len cap : Nat) (w : World) (hl : len ≤ maxLen) :
    Calls Try.prog 12 #[.slice a len cap, .int .i64 1048576] w fun e w' => ∃ r, e = .returned (.int .i64 r) ∧ (r = -1 ∨ (0 ≤ r ∧ len ≤ 1048576)) ∧ w' = w := by
  unfold maxLen at hl
  by_cases h : (1048576 : Int) - len < 0
  · go_enter Try.func12, Try.ntmps12
    go_wp2
    go_ret
    exact ⟨_, rfl, by omega, rfl⟩
  · go_enter Try.func12, Try.ntmps12
    go_wp2
    go_ret
    exact ⟨_, rfl, by omega, rfl⟩

/-- the copy's list as it stands: the first are there, nought behind them -/
def mid (l : List Kl) (n k : Nat) : List Kl := l.take k ++ List.replicate (n - k) (0, 0, 0, 0, 0)
theorem mid_len {l : List Kl} {n k : Nat} (hl : l.length = n) (hk : k ≤ n) : (mid l n k).length = n := by simp [mid]; omega
theorem mid_set {l : List Kl} {n k : Nat} {x : Kl} (hl : l.length = n) (h : l[k]? = some x) : (mid l n k).set k x = mid l n (k + 1) := by
  have hk : k < l.length := (List.getElem?_eq_some_iff.1 h).1
  unfold mid
  rw [take_snocK h, List.set_append_right _ _ (by simp; omega)]
  have e : n - k = (n - (k + 1)) + 1 := by omega
  rw [e, List.replicate_succ]
  have e2 : k - (l.take k).length = 0 := by simp; omega
  rw [e2]; simp
theorem flK_rep (n : Nat) : flK (List.replicate n (0, 0, 0, 0, 0)) = List.replicate (n * 5) (iv 0) := by
  induction n with
  | zero => rfl
  | succ n ih =>
    have e : (n + 1) * 5 = n * 5 + 1 + 1 + 1 + 1 + 1 := by omega
    rw [e, List.replicate_succ, List.replicate_succ, List.replicate_succ, List.replicate_succ, List.replicate_succ, List.replicate_succ, ← ih]
    rfl
theorem made_flK (n : Nat) : (madeCells #[.int .i64 0, .int .i64 0, .int .i64 0, .int .i64 0, .int .i64 0] (n * 5)).toList = flK (List.replicate n (0, 0, 0, 0, 0)) := by
  rw [flK_rep]
  apply List.ext_getElem
  · simp [madeCells]
  · intro i h1 h2
    simp [madeCells, iv]
    have : i % 5 = 0 ∨ i % 5 = 1 ∨ i % 5 = 2 ∨ i % 5 = 3 ∨ i % 5 = 4 := by omega
    rcases this with h | h | h | h | h <;> simp [h]

set_option maxHeartbeats 1600000 in
theorem tok_any (a : Option Addr) (cap : Nat) (zs : List Kl) (w : World) (hl : zs.length ≤ 1048576) (hr : Kls w a zs) :
    Calls Try.prog 13 #[.slice a zs.length cap] w fun e w' => ∃ B, e = .returned (.slice (some ⟨B, 0, none⟩) zs.length zs.length) ∧ w.heap.size ≤ B ∧ Own w' w.heap.size B zs.length zs.length zs ∧ Below w.heap.size w w' := by
  obtain ⟨i0, hi, hz0, hz1, hz2⟩ := info_parts info44
  go_enter Try.func13, Try.ntmps13
  go_wp2_with (refine wpList_make_full _ rfl _ _ 24 rfl w.heap.size 32 i0 _ 5 Try.underlying24 hi hz0 hz1 .i64 .i64 _ _ zs.length rfl rfl rfl rfl ?b2 ?b3 (Nat.le_refl _) ?_)
  case b2 => rw [hz2]; omega
  case b3 => unfold maxLen; omega
  intro w1 hown hg
  have hb1 : Below w.heap.size w w1 := (Below.refl _ _).grown hg (Nat.le_refl _) (fun k hk => by cases hk)
  have hown1 : Own w1 w.heap.size w.heap.size zs.length zs.length (mid zs zs.length 0) := by
    have e : flK (mid zs zs.length 0) = (madeCells #[.int .i64 0, .int .i64 0, .int .i64 0, .int .i64 0, .int .i64 0] (zs.length * 5)).toList := by rw [made_flK]; simp [mid]
    show World.ownsRow _ _ _ _ _ _ _
    rw [e]; exact hown
  clear hown hg
  go_wp2
  go_loopw [4] (fun t wr => ∃ k : Nat, k ≤ zs.length ∧ t = .int .i64 k ∧ Hid (Own wr w.heap.size w.heap.size zs.length zs.length (mid zs zs.length k)) ∧ Hid (Below w.heap.size w wr)) (fun t _ => zs.length - (intOf t).toNat)
  case atStart => exact ⟨0, by omega, rfl, hide hown1, hide hb1⟩
  case round =>
    clear hown1 hb1
    obtain ⟨k, hk, rfl, hown, hb⟩ := hrel
    by_cases hlt : k < zs.length
    · obtain ⟨z, hz⟩ : ∃ z, zs[k]? = some z := ⟨zs[k], List.getElem?_eq_getElem hlt⟩
      obtain ⟨b, o, rfl, h2, c0, c1, c2, c3, c4⟩ := hr k z hz
      have hc0 : wr.cell? ⟨b, o + k * 5, none⟩ = some (.int .i64 z.1) := by rw [(bcell (unhide hb)).1 _ _ h2]; exact c0
      have hc1 : wr.cell? ⟨b, o + k * 5 + 1, none⟩ = some (.int .i64 z.2.1) := by rw [(bcell (unhide hb)).1 _ _ h2]; exact c1
      have hc2 : wr.cell? ⟨b, o + k * 5 + 2, none⟩ = some (.int .i64 z.2.2.1) := by rw [(bcell (unhide hb)).1 _ _ h2]; exact c2
      have hc3 : wr.cell? ⟨b, o + k * 5 + 3, none⟩ = some (.int .i64 z.2.2.2.1) := by rw [(bcell (unhide hb)).1 _ _ h2]; exact c3
      have hc4 : wr.cell? ⟨b, o + k * 5 + 4, none⟩ = some (.int .i64 z.2.2.2.2) := by rw [(bcell (unhide hb)).1 _ _ h2]; exact c4
      have hr' := hide hr
      have hz' := hide hz
      clear hr hz c0 c1 c2 c3 c4
      go_wp2_with fail
      refine (tok1_any z.1 z.2.1 z.2.2.1 z.2.2.2.1 z.2.2.2.2 _).mono ?_
      rintro e w3 ⟨rfl, hb3⟩
      have own3 := ownsRow_below (unhide hown) hb3
      have hml : k < (mid zs zs.length k).length := by rw [mid_len rfl hk]; exact hlt
      obtain ⟨x0, x1, x2, x3, x4⟩ := own_cells (List.getElem?_eq_getElem hml) own3
      have f0 := own3.frozenAt (k * 5)
      have f1 := own3.frozenAt (k * 5 + 1)
      have f2 := own3.frozenAt (k * 5 + 2)
      have f3 := own3.frozenAt (k * 5 + 3)
      have f4 := own3.frozenAt (k * 5 + 4)
      have hnew := hide (show _ from by have := own_put (x := z) hml own3; rw [mid_set rfl (unhide hz')] at this; exact this)
      have hB3 := hide ((unhide hb).trans (hb3.mono (unhide hb).size))
      generalize (mid zs zs.length k)[k].1 = u0 at *
      generalize (mid zs zs.length k)[k].2.1 = u1 at *
      generalize (mid zs zs.length k)[k].2.2.1 = u2 at *
      generalize (mid zs zs.length k)[k].2.2.2.1 = u3 at *
      generalize (mid zs zs.length k)[k].2.2.2.2 = u4 at *
      clear own3 hb3 hown hb hml
      go_wp2
      go_roundw
      case rel => exact ⟨k + 1, by omega, by go_num, hnew, hide ((((((unhide hB3).setCell (Nat.le_refl _) _).setCell (Nat.le_refl _) _).setCell (Nat.le_refl _) _).setCell (Nat.le_refl _) _).setCell (Nat.le_refl _) _)⟩
      case measure => simp [intOf]; omega
    · have hke : k = zs.length := by omega
      have hr' := hide hr
      clear hr
      go_wp2
      go_ret
      refine ⟨_, rfl, Nat.le_refl _, ?_, unhide hb⟩
      have := unhide hown
      rw [hke] at this
      simpa [mid] using this

theorem keepN {w w0 w1 : World} {a0 a1 a2 a3 a4 a5 a6 a7 a8 a9 : Addr} {v0 v1 v2 v3 v4 v5 v6 v7 v8 v9 : Value}
    (h : w0.cell? a0 = some v0 ∧ w0.cell? a1 = some v1 ∧ w0.cell? a2 = some v2 ∧ w0.cell? a3 = some v3 ∧ w0.cell? a4 = some v4 ∧ w0.cell? a5 = some v5 ∧ w0.cell? a6 = some v6 ∧ w0.cell? a7 = some v7 ∧ w0.cell? a8 = some v8 ∧ w0.cell? a9 = some v9 ∧ Below w.heap.size w w0) (hb : Below w0.heap.size w0 w1) :
    w1.cell? a0 = some v0 ∧ w1.cell? a1 = some v1 ∧ w1.cell? a2 = some v2 ∧ w1.cell? a3 = some v3 ∧ w1.cell? a4 = some v4 ∧ w1.cell? a5 = some v5 ∧ w1.cell? a6 = some v6 ∧ w1.cell? a7 = some v7 ∧ w1.cell? a8 = some v8 ∧ w1.cell? a9 = some v9 ∧ Below w.heap.size w w1 := by
  obtain ⟨h0, h1, h2, h3, h4, h5, h6, h7, h8, h9, hB⟩ := h
  exact ⟨cell_later hb h0, cell_later hb h1, cell_later hb h2, cell_later hb h3, cell_later hb h4, cell_later hb h5, cell_later hb h6, cell_later hb h7, cell_later hb h8, cell_later hb h9, hB.trans (hb.mono hB.size)⟩
theorem keepNd {w w0 : World} {a0 a1 a2 a3 a4 a5 a6 a7 a8 a9 : Addr} {v0 v1 v2 v3 v4 v5 v6 v7 v8 v9 : Value}
    (h : w0.cell? a0 = some v0 ∧ w0.cell? a1 = some v1 ∧ w0.cell? a2 = some v2 ∧ w0.cell? a3 = some v3 ∧ w0.cell? a4 = some v4 ∧ w0.cell? a5 = some v5 ∧ w0.cell? a6 = some v6 ∧ w0.cell? a7 = some v7 ∧ w0.cell? a8 = some v8 ∧ w0.cell? a9 = some v9 ∧ Below w.heap.size w w0) : w0.drew.cell? a0 = some v0 ∧ w0.drew.cell? a1 = some v1 ∧ w0.drew.cell? a2 = some v2 ∧ w0.drew.cell? a3 = some v3 ∧ w0.drew.cell? a4 = some v4 ∧ w0.drew.cell? a5 = some v5 ∧ w0.drew.cell? a6 = some v6 ∧ w0.drew.cell? a7 = some v7 ∧ w0.drew.cell? a8 = some v8 ∧ w0.drew.cell? a9 = some v9 ∧ Below w.heap.size w w0.drew := by
  obtain ⟨h0, h1, h2, h3, h4, h5, h6, h7, h8, h9, hB⟩ := h
  exact ⟨h0, h1, h2, h3, h4, h5, h6, h7, h8, h9, hB.drew⟩

set_option maxHeartbeats 1600000 in
theorem eqks_any (a b : Option Addr) (ca cb : Nat) (l : List Kl) (w : World) (hl : l.length ≤ 1048576) (ha : Kls w a l) (hb : Kls w b l) :
    Calls Try.prog 15 #[.slice a l.length ca, .slice b l.length cb] w fun e w' => e = .returned (.bool true) ∧ Below w.heap.size w w' := by
  have ha' := hide ha
  have hb' := hide hb
  clear ha hb
  have hne : ((l.length : Int) != l.length) = false := by simp
  go_enter Try.func15, Try.ntmps15
  go_wp2
  go_loopw [5] (fun t wr => ∃ k : Nat, k ≤ l.length ∧ t = .int .i64 k ∧ Below w.heap.size w wr) (fun t _ => l.length - (intOf t).toNat)
  case atStart => exact ⟨0, by omega, rfl, Below.refl _ _⟩
  case round =>
    obtain ⟨k, hk, rfl, hw⟩ := hrel
    by_cases hlt : k < l.length
    · obtain ⟨x, hx⟩ : ∃ x, l[k]? = some x := ⟨l[k], List.getElem?_eq_getElem hlt⟩
      obtain ⟨b1, o1, rfl, i1, c0, c1, c2, c3, c4⟩ := unhide ha' k x hx
      obtain ⟨b2, o2, rfl, i2, e0, e1, e2, e3, e4⟩ := unhide hb' k x hx
      have C := fun o => (bcell hw).1 b1 o i1
      have E := fun o => (bcell hw).1 b2 o i2
      obtain ⟨x0, x1, x2, x3, x4⟩ := x
      have hall : Hid (wr.cell? ⟨b1, o1 + k * 5, none⟩ = some (.int .i64 x0) ∧ wr.cell? ⟨b1, o1 + k * 5 + 1, none⟩ = some (.int .i64 x1) ∧ wr.cell? ⟨b1, o1 + k * 5 + 2, none⟩ = some (.int .i64 x2) ∧ wr.cell? ⟨b1, o1 + k * 5 + 3, none⟩ = some (.int .i64 x3) ∧ wr.cell? ⟨b1, o1 + k * 5 + 4, none⟩ = some (.int .i64 x4) ∧ wr.cell? ⟨b2, o2 + k * 5, none⟩ = some (.int .i64 x0) ∧ wr.cell? ⟨b2, o2 + k * 5 + 1, none⟩ = some (.int .i64 x1) ∧ wr.cell? ⟨b2, o2 + k * 5 + 2, none⟩ = some (.int .i64 x2) ∧ wr.cell? ⟨b2, o2 + k * 5 + 3, none⟩ = some (.int .i64 x3) ∧ wr.cell? ⟨b2, o2 + k * 5 + 4, none⟩ = some (.int .i64 x4) ∧ Below w.heap.size w wr) := hide ⟨(C _).trans c0, (C _).trans c1, (C _).trans c2, (C _).trans c3, (C _).trans c4, (E _).trans e0, (E _).trans e1, (E _).trans e2, (E _).trans e3, (E _).trans e4, hw⟩
      have hw' := hide hw
      clear hx c0 e0 c1 e1 c2 e2 c3 e3 c4 e4 hw C E
      go_wp2_with fail
      go_region_held3 (fun w' => w'.cell? ⟨b1, o1 + k * 5, none⟩ = some (.int .i64 x0) ∧ w'.cell? ⟨b1, o1 + k * 5 + 1, none⟩ = some (.int .i64 x1) ∧ w'.cell? ⟨b1, o1 + k * 5 + 2, none⟩ = some (.int .i64 x2) ∧ w'.cell? ⟨b1, o1 + k * 5 + 3, none⟩ = some (.int .i64 x3) ∧ w'.cell? ⟨b1, o1 + k * 5 + 4, none⟩ = some (.int .i64 x4) ∧ w'.cell? ⟨b2, o2 + k * 5, none⟩ = some (.int .i64 x0) ∧ w'.cell? ⟨b2, o2 + k * 5 + 1, none⟩ = some (.int .i64 x1) ∧ w'.cell? ⟨b2, o2 + k * 5 + 2, none⟩ = some (.int .i64 x2) ∧ w'.cell? ⟨b2, o2 + k * 5 + 3, none⟩ = some (.int .i64 x3) ∧ w'.cell? ⟨b2, o2 + k * 5 + 4, none⟩ = some (.int .i64 x4) ∧ Below w.heap.size w w')
        (first | (refine keepN ?_ hb; assumption) | (exact keepNd (unhide hall)))
        ((go_at_call 28; refine (eqk_any x0 x1 x2 x3 x4 _).mono ?_; rintro e w1 ⟨rfl, hb⟩))
      go_wp2
      go_roundw
      case rel => exact ⟨k + 1, by omega, by go_num, by rename_i hH; exact hH.2.2.2.2.2.2.2.2.2.2⟩
      case measure => simp [intOf]; omega
    · have hke : k = l.length := by omega
      go_wp2
      go_ret
      exact ⟨rfl, hw⟩

/-- the first i cells bear the marks from q on -/
def Mkd (q : Int) (i : Nat) (xs : List Value) : Prop := ∀ j, j < i → xs[j]? = some (iv (q + j))
theorem Mkd.set {q : Int} {i : Nat} {xs : List Value} (h : Mkd q i xs) (hi : i < xs.length) : Mkd q (i + 1) (xs.set i (iv (q + i))) := by
  intro j hj
  by_cases e : j = i
  · subst e; simp [hi]
  · rw [List.getElem?_set_ne (by omega)]; exact h j (by omega)
theorem grown_refl (w : World) (g : Option Nat) : w.grownBy w g := ⟨rfl, rfl, rfl, Nat.le_refl _, fun _ _ _ => rfl⟩
theorem grown_trans {w w1 w2 : World} {g : Option Nat} (h : w.grownBy w1 g) (k : w1.grownBy w2 g) : w.grownBy w2 g :=
  ⟨k.os.trans h.os, k.tape.trans h.tape, k.output.trans h.output, Nat.le_trans h.size k.size, fun j hj hn => (k.block j (Nat.lt_of_lt_of_le hj h.size) hn).trans (h.block j hj hn)⟩
theorem grown_set {w w1 : World} {g i : Nat} {v : Value} (h : w.grownBy w1 (some g)) : w.grownBy (w1.setCell ⟨g, i, none⟩ v) (some g) :=
  grown_trans h ⟨rfl, rfl, rfl, by simp, fun j hj hn => by
    have hg : g ≠ j := fun e => hn (by rw [e])
    simp [World.setCell, Array.getElem?_modify, hg]⟩
theorem own_at {w : World} {B g n m cap i : Nat} {e : TypeId} {xs : List Value} (h : w.ownsRow B e m (.slice (some ⟨g, 0, none⟩) n cap) n xs) (hi : i < n * m) : ∃ v, w.cell? ⟨g, i, none⟩ = some v ∧ w.frozen? ⟨g, i, none⟩ = false ∧ xs[i]? = some v ∧ xs.length = n * m := by
  have hl : xs.length = n * m := h.1
  have hc := h.cellAt i hi
  exact ⟨xs[i]'(by omega), by rw [hc, List.getElem?_eq_getElem (by omega)], h.frozenAt i, List.getElem?_eq_getElem (by omega), hl⟩

theorem mark_n {wr : World} {B g n cap k : Nat} {q : Int} {ys : List Value} (hlt : k < n) (hy : wr.ownsRow B 32 5 (.slice (some ⟨g, 0, none⟩) n cap) n ys) (hm : Mkd q (k * 5) ys) :
    ∃ ys, ((((((wr.setCell ⟨g, k * 5, none⟩ (.int .i64 (q + k * 5))).setCell ⟨g, k * 5 + 1, none⟩ (.int .i64 (q + k * 5 + 1))).setCell ⟨g, k * 5 + 2, none⟩ (.int .i64 (q + k * 5 + 1 + 1))).setCell ⟨g, k * 5 + 3, none⟩ (.int .i64 (q + k * 5 + 1 + 1 + 1))).setCell ⟨g, k * 5 + 4, none⟩ (.int .i64 (q + k * 5 + 1 + 1 + 1 + 1)))).ownsRow B 32 5 (.slice (some ⟨g, 0, none⟩) n cap) n ys ∧ Mkd q ((k + 1) * 5) ys := by
  have hl : ys.length = n * 5 := hy.1
  have h0 := (hy.stored (k * 5) (iv (q + ((k * 5 : Nat) : Int)))).1
  have m0 := hm.set (by omega)
  have h1 := (h0.stored (k * 5 + 1) (iv (q + ((k * 5 + 1 : Nat) : Int)))).1
  have m1 := m0.set (by rw [List.length_set]; omega)
  have h2 := (h1.stored (k * 5 + 2) (iv (q + ((k * 5 + 2 : Nat) : Int)))).1
  have m2 := m1.set (by rw [List.length_set, List.length_set]; omega)
  have h3 := (h2.stored (k * 5 + 3) (iv (q + ((k * 5 + 3 : Nat) : Int)))).1
  have m3 := m2.set (by rw [List.length_set, List.length_set, List.length_set]; omega)
  have h4 := (h3.stored (k * 5 + 4) (iv (q + ((k * 5 + 4 : Nat) : Int)))).1
  have m4 := m3.set (by rw [List.length_set, List.length_set, List.length_set, List.length_set]; omega)
  have e0 : q + ((k * 5 : Nat) : Int) = q + k * 5 := by omega
  have e1 : q + ((k * 5 + 1 : Nat) : Int) = q + k * 5 + 1 := by omega
  have e2 : q + ((k * 5 + 2 : Nat) : Int) = q + k * 5 + 1 + 1 := by omega
  have e3 : q + ((k * 5 + 3 : Nat) : Int) = q + k * 5 + 1 + 1 + 1 := by omega
  have e4 : q + ((k * 5 + 4 : Nat) : Int) = q + k * 5 + 1 + 1 + 1 + 1 := by omega
  have d2 : q + ((k * 5 + 1 + 1 : Nat) : Int) = q + k * 5 + 1 + 1 := by omega
  have d3 : q + ((k * 5 + 1 + 1 + 1 : Nat) : Int) = q + k * 5 + 1 + 1 + 1 := by omega
  have d4 : q + ((k * 5 + 1 + 1 + 1 + 1 : Nat) : Int) = q + k * 5 + 1 + 1 + 1 + 1 := by omega
  have z5 : (k + 1) * 5 = k * 5 + 1 + 1 + 1 + 1 + 1 := by omega
  rw [e0, e1, e2, e3, e4] at h4
  rw [e0, e1, d2, d3, d4] at m4
  rw [z5]
  exact ⟨_, h4, m4⟩

set_option maxHeartbeats 800000 in
theorem markk_any (B g n cap : Nat) (q : Int) (xs : List Value) (w : World) (hn : n ≤ 10000000) (q0 : 0 ≤ q) (q1 : q ≤ 100000000) (h : w.ownsRow B 32 5 (.slice (some ⟨g, 0, none⟩) n cap) n xs) :
    Calls Try.prog 16 #[.slice (some ⟨g, 0, none⟩) n cap, .int .i64 q] w fun e w' => e = .returned (.int .i64 (q + n * 5)) ∧ (∃ ys, w'.ownsRow B 32 5 (.slice (some ⟨g, 0, none⟩) n cap) n ys ∧ Mkd q (n * 5) ys) ∧ w.grownBy w' (some g) := by
  have h' := hide h
  clear h
  go_enter Try.func16, Try.ntmps16
  go_wp2
  go_loopw [1, 5] (fun s t wr => ∃ k : Nat, k ≤ n ∧ t = .int .i64 k ∧ s = .int .i64 (q + k * 5) ∧ Hid (∃ ys, wr.ownsRow B 32 5 (.slice (some ⟨g, 0, none⟩) n cap) n ys ∧ Mkd q (k * 5) ys) ∧ Hid (w.grownBy wr (some g))) (fun _ t _ => n - (intOf t).toNat)
  case atStart => exact ⟨0, by omega, rfl, by simp, hide ⟨xs, unhide h', fun j hj => by omega⟩, hide (grown_refl _ _)⟩
  case round =>
    obtain ⟨k, hk, rfl, rfl, hown, hg⟩ := hrel
    by_cases hlt : k < n
    · obtain ⟨ys, hy, hm⟩ := unhide hown
      obtain ⟨v0, c0, f0, _, hl0⟩ := own_at (i := k * 5) hy (by omega)
      obtain ⟨v1, c1, f1, _, hl1⟩ := own_at (i := k * 5 + 1) hy (by omega)
      obtain ⟨v2, c2, f2, _, hl2⟩ := own_at (i := k * 5 + 2) hy (by omega)
      obtain ⟨v3, c3, f3, _, hl3⟩ := own_at (i := k * 5 + 3) hy (by omega)
      obtain ⟨v4, c4, f4, _, hl4⟩ := own_at (i := k * 5 + 4) hy (by omega)
      have hnew := hide (mark_n hlt hy hm)
      clear hown hy hm hl0 hl1 hl2 hl3 hl4
      go_wp2
      go_roundw
      case rel => exact ⟨k + 1, by omega, by go_num, by go_num, hnew, hide (grown_set (grown_set (grown_set (grown_set (grown_set (unhide hg))))))⟩
      case measure => simp [intOf]; omega
    · have hke : k = n := by omega
      have hf : Hid (∃ ys, wr.ownsRow B 32 5 (.slice (some ⟨g, 0, none⟩) n cap) n ys ∧ Mkd q (n * 5) ys) := hide (by have := unhide hown; rw [hke] at this; exact this)
      clear hown
      go_wp2
      go_ret
      exact ⟨ret_int (by omega), unhide hf, unhide hg⟩

set_option maxHeartbeats 800000 in
theorem heldk_any (B g n cap : Nat) (q : Int) (xs : List Value) (w : World) (hn : n ≤ 10000000) (q0 : 0 ≤ q) (q1 : q ≤ 100000000) (h : w.ownsRow B 32 5 (.slice (some ⟨g, 0, none⟩) n cap) n xs) (hm : Mkd q (n * 5) xs) :
    Calls Try.prog 17 #[.slice (some ⟨g, 0, none⟩) n cap, .int .i64 q] w fun e w' => e = .returned (.int .i64 (q + n * 5)) ∧ w' = w := by
  have h' := hide h
  have hm' := hide hm
  clear h hm
  go_enter Try.func17, Try.ntmps17
  go_wp2
  go_loop [1, 5] (fun s t => ∃ k : Nat, k ≤ n ∧ t = .int .i64 k ∧ s = .int .i64 (q + k * 5)) (fun _ t => n - (intOf t).toNat)
  case atStart => exact ⟨0, by omega, rfl, by simp⟩
  case round =>
    obtain ⟨k, hk, rfl, rfl⟩ := hrel
    by_cases hlt : k < n
    · skip
      obtain ⟨v0, c0, f0, hv0, hl0⟩ := own_at (i := k * 5) (unhide h') (by omega)
      rw [unhide hm' (k * 5) (by omega)] at hv0
      cases hv0
      have e0 : q + ((k * 5 : Nat) : Int) = q + k * 5 := by omega
      rw [e0] at c0
      have s0 : ((q + k * 5) != (q + k * 5)) = false := by simp
      obtain ⟨v1, c1, f1, hv1, hl1⟩ := own_at (i := k * 5 + 1) (unhide h') (by omega)
      rw [unhide hm' (k * 5 + 1) (by omega)] at hv1
      cases hv1
      have e1 : q + ((k * 5 + 1 : Nat) : Int) = q + k * 5 + 1 := by omega
      rw [e1] at c1
      have s1 : ((q + k * 5 + 1) != (q + k * 5 + 1)) = false := by simp
      obtain ⟨v2, c2, f2, hv2, hl2⟩ := own_at (i := k * 5 + 2) (unhide h') (by omega)
      rw [unhide hm' (k * 5 + 2) (by omega)] at hv2
      cases hv2
      have e2 : q + ((k * 5 + 2 : Nat) : Int) = q + k * 5 + 2 := by omega
      rw [e2] at c2
      have s2 : ((q + k * 5 + 2) != (q + k * 5 + 2)) = false := by simp
      obtain ⟨v3, c3, f3, hv3, hl3⟩ := own_at (i := k * 5 + 3) (unhide h') (by omega)
      rw [unhide hm' (k * 5 + 3) (by omega)] at hv3
      cases hv3
      have e3 : q + ((k * 5 + 3 : Nat) : Int) = q + k * 5 + 3 := by omega
      rw [e3] at c3
      have s3 : ((q + k * 5 + 3) != (q + k * 5 + 3)) = false := by simp
      obtain ⟨v4, c4, f4, hv4, hl4⟩ := own_at (i := k * 5 + 4) (unhide h') (by omega)
      rw [unhide hm' (k * 5 + 4) (by omega)] at hv4
      cases hv4
      have e4 : q + ((k * 5 + 4 : Nat) : Int) = q + k * 5 + 4 := by omega
      rw [e4] at c4
      have s4 : ((q + k * 5 + 4) != (q + k * 5 + 4)) = false := by simp
      clear f0 hl0 e0 f1 hl1 e1 f2 hl2 e2 f3 hl3 e3 f4 hl4 e4
      go_wp2
      go_round
      case rel => exact ⟨k + 1, by omega, by go_num, by go_num⟩
      case measure => simp [intOf]; omega
    · have hke : k = n := by omega
      go_wp2
      go_ret
      exact ⟨ret_int (by omega), rfl⟩

end D
end Go.Proofs.Ytmpbcmpjfcddoaa
