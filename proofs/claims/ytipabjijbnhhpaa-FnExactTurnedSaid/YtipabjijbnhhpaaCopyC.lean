/-
  Contracts of the law's functions that weigh, copy and hold against each other lists of changes, write marks into them and look for them again.
-/
import Derived.Test.YtipabjijbnhhpaaMemC
namespace Go.Proofs.Ytipabjijbnhhpaa
open Go.RowKit
set_option linter.unusedVariables false
set_option linter.unusedSimpArgs false

set_option maxHeartbeats 400000 in
theorem szk2_any (a : Option Addr) (len cap : Nat) (q : Int) (w : World) (hl : len ≤ maxLen) (q0 : 0 ≤ q) (q1 : q ≤ 1048576) :
    Calls Try.prog 5 #[.slice a len cap, .int .i64 q] w fun e w' => ∃ r, e = .returned (.int .i64 r) ∧ (r = -1 ∨ (0 ≤ r ∧ r ≤ 1048576 ∧ len ≤ 1048576)) ∧ w' = w := by
  unfold maxLen at hl
  by_cases h : q - len < 0
  · go_enter Try.func5, Try.ntmps5
    go_wp2
    go_ret
    exact ⟨_, rfl, by omega, rfl⟩
  · go_enter Try.func5, Try.ntmps5
    go_wp2
    go_ret
    exact ⟨_, rfl, by omega, rfl⟩
set_option maxHeartbeats 400000 in
theorem szc_any (a : Option Addr) (len cap : Nat) (q : Int) (w : World) (hl : len ≤ maxLen) (q0 : 0 ≤ q) (q1 : q ≤ 1048576) :
    Calls Try.prog 6 #[.slice a len cap, .int .i64 q] w fun e w' => ∃ r, e = .returned (.int .i64 r) ∧ (r = -1 ∨ (0 ≤ r ∧ r ≤ 1048576 ∧ len ≤ 1048576)) ∧ w' = w := by
  unfold maxLen at hl
  by_cases h : q - len < 0
  · go_enter Try.func6, Try.ntmps6
    go_wp2
    go_ret
    exact ⟨_, rfl, by omega, rfl⟩
  · go_enter Try.func6, Try.ntmps6
    go_wp2
    go_ret
    exact ⟨_, rfl, by omega, rfl⟩

set_option maxHeartbeats 800000 in
theorem toc1_any (c1 c2 c3 c4 : Int) (w : World) : Calls Try.prog 25 #[.agg #[.int .i64 c1, .int .i64 c2, .int .i64 c3, .int .i64 c4]] w fun e w' => e = .returned (.agg #[.int .i64 c1, .int .i64 c2, .int .i64 c3, .int .i64 c4]) ∧ Below w.heap.size w w' := by
  go_enter Try.func25, Try.ntmps25
  go_wp2
  exact bodyPost_ret (v := .agg #[.int .i64 c1, .int .i64 c2, .int .i64 c3, .int .i64 c4]) (by simp [results, Try.results25, go_sem]) rfl ⟨rfl, (((Below.refl _ _).alloc (Nat.le_refl _) _).alloc (by simp) _).alloc (by simp; omega) _⟩

def midC (l : List Ch) (n k : Nat) : List Ch := l.take k ++ List.replicate (n - k) (0, 0, 0, 0)
theorem midC_len {l : List Ch} {n k : Nat} (hl : l.length = n) (hk : k ≤ n) : (midC l n k).length = n := by simp [midC]; omega
theorem take_snocC {l : List Ch} {k : Nat} {c : Ch} (h : l[k]? = some c) : l.take (k + 1) = l.take k ++ [c] := by
  rw [List.take_add_one, h]; rfl
theorem midC_set {l : List Ch} {n k : Nat} {x : Ch} (hl : l.length = n) (h : l[k]? = some x) : (midC l n k).set k x = midC l n (k + 1) := by
  have hk : k < l.length := (List.getElem?_eq_some_iff.1 h).1
  unfold midC
  rw [take_snocC h, List.set_append_right _ _ (by simp; omega)]
  have e : n - k = (n - (k + 1)) + 1 := by omega
  rw [e, List.replicate_succ]
  have e2 : k - (l.take k).length = 0 := by simp; omega
  rw [e2]; simp
theorem flC_rep (n : Nat) : flC (List.replicate n (0, 0, 0, 0)) = List.replicate (n * 4) (iv 0) := by
  induction n with
  | zero => rfl
  | succ n ih =>
    have e : (n + 1) * 4 = n * 4 + 1 + 1 + 1 + 1 := by omega
    rw [e, List.replicate_succ, List.replicate_succ, List.replicate_succ, List.replicate_succ, List.replicate_succ, ← ih]
    rfl
theorem made_flC (n : Nat) : (madeCells #[.int .i64 0, .int .i64 0, .int .i64 0, .int .i64 0] (n * 4)).toList = flC (List.replicate n (0, 0, 0, 0)) := by
  rw [flC_rep]
  apply List.ext_getElem
  · simp [madeCells]
  · intro i h1 h2
    simp [madeCells, iv]
    have : i % 4 = 0 ∨ i % 4 = 1 ∨ i % 4 = 2 ∨ i % 4 = 3 := by omega
    rcases this with h | h | h | h <;> simp [h]

set_option maxHeartbeats 1600000 in
theorem toc_any (a : Option Addr) (cap : Nat) (zs : List Ch) (w : World) (hl : zs.length ≤ 1048576) (hr : Chs w a zs) :
    Calls Try.prog 9 #[.slice a zs.length cap] w fun e w' => ∃ B, e = .returned (.slice (some ⟨B, 0, none⟩) zs.length zs.length) ∧ w.heap.size ≤ B ∧ OwnC w' w.heap.size B zs.length zs.length zs ∧ Below w.heap.size w w' := by
  obtain ⟨i0, hi, hz0, hz1, hz2⟩ := info_parts info48
  go_enter Try.func9, Try.ntmps9
  go_wp2_with (refine wpList_make_full _ rfl _ _ 30 rfl w.heap.size 42 i0 _ 4 Try.underlying30 hi hz0 hz1 .i64 .i64 _ _ zs.length rfl rfl rfl rfl ?b2 ?b3 (Nat.le_refl _) ?_)
  case b2 => rw [hz2]; omega
  case b3 => unfold maxLen; omega
  intro w1 hown hg
  have hb1 : Below w.heap.size w w1 := (Below.refl _ _).grown hg (Nat.le_refl _) (fun k hk => by cases hk)
  have hown1 : OwnC w1 w.heap.size w.heap.size zs.length zs.length (midC zs zs.length 0) := by
    have e : flC (midC zs zs.length 0) = (madeCells #[.int .i64 0, .int .i64 0, .int .i64 0, .int .i64 0] (zs.length * 4)).toList := by rw [made_flC]; simp [midC]
    show World.ownsRow _ _ _ _ _ _ _
    rw [e]; exact hown
  clear hown hg
  go_wp2
  go_loopw [4] (fun t wr => ∃ k : Nat, k ≤ zs.length ∧ t = .int .i64 k ∧ Hid (OwnC wr w.heap.size w.heap.size zs.length zs.length (midC zs zs.length k)) ∧ Hid (Below w.heap.size w wr)) (fun t _ => zs.length - (intOf t).toNat)
  case atStart => exact ⟨0, by omega, rfl, hide hown1, hide hb1⟩
  case round =>
    clear hown1 hb1
    obtain ⟨k, hk, rfl, hown, hb⟩ := hrel
    by_cases hlt : k < zs.length
    · obtain ⟨z, hz⟩ : ∃ z, zs[k]? = some z := ⟨zs[k], List.getElem?_eq_getElem hlt⟩
      obtain ⟨b, o, rfl, h2, c0, c1, c2, c3⟩ := hr k z hz
      have hcw : wr.cell? ⟨b, o + k * 4, none⟩ = some (.int .i64 z.1) := by rw [(bcell (unhide hb)).1 _ _ h2]; exact c0
      have hdw : wr.cell? ⟨b, o + k * 4 + 1, none⟩ = some (.int .i64 z.2.1) := by rw [(bcell (unhide hb)).1 _ _ h2]; exact c1
      have hew : wr.cell? ⟨b, o + k * 4 + 2, none⟩ = some (.int .i64 z.2.2.1) := by rw [(bcell (unhide hb)).1 _ _ h2]; exact c2
      have hfw : wr.cell? ⟨b, o + k * 4 + 3, none⟩ = some (.int .i64 z.2.2.2) := by rw [(bcell (unhide hb)).1 _ _ h2]; exact c3
      have hr' := hide hr
      have hz' := hide hz
      clear hr hz c0 c1 c2 c3
      go_wp2_with fail
      refine (toc1_any z.1 z.2.1 z.2.2.1 z.2.2.2 _).mono ?_
      rintro e w3 ⟨rfl, hb3⟩
      have own3 := ownsRow_below (unhide hown) hb3
      have hml : k < (midC zs zs.length k).length := by rw [midC_len rfl hk]; exact hlt
      obtain ⟨x0, x1, x2, x3⟩ := ownc_cells (List.getElem?_eq_getElem hml) own3
      have f0 := own3.frozenAt (k * 4)
      have f1 := own3.frozenAt (k * 4 + 1)
      have f2 := own3.frozenAt (k * 4 + 2)
      have f3 := own3.frozenAt (k * 4 + 3)
      have hnew := hide (show _ from by have := ownc_put (x := z) hml own3; rw [midC_set rfl (unhide hz')] at this; exact this)
      have hB3 := hide ((unhide hb).trans (hb3.mono (unhide hb).size))
      generalize (midC zs zs.length k)[k].1 = u0 at *
      generalize (midC zs zs.length k)[k].2.1 = u1 at *
      generalize (midC zs zs.length k)[k].2.2.1 = u2 at *
      generalize (midC zs zs.length k)[k].2.2.2 = u3 at *
      clear own3 hb3 hown hb hml
      go_wp2
      go_roundw
      case rel => exact ⟨k + 1, by omega, by go_num, hnew, hide (((((unhide hB3).setCell (Nat.le_refl _) _).setCell (Nat.le_refl _) _).setCell (Nat.le_refl _) _).setCell (Nat.le_refl _) _)⟩
      case measure => simp [intOf]; omega
    · have hke : k = zs.length := by omega
      have hr' := hide hr
      clear hr
      go_wp2
      go_ret
      refine ⟨_, rfl, Nat.le_refl _, ?_, unhide hb⟩
      have := unhide hown
      rw [hke] at this
      simpa [midC] using this

set_option maxHeartbeats 800000 in
theorem eqc_any (a1 a2 a3 a4 : Int) (w : World) : Calls Try.prog 34 #[.agg #[.int .i64 a1, .int .i64 a2, .int .i64 a3, .int .i64 a4], .agg #[.int .i64 a1, .int .i64 a2, .int .i64 a3, .int .i64 a4]] w fun e w' => e = .returned (.bool true) ∧ Below w.heap.size w w' := by
  have e1 : (a1 != a1) = false := by simp
  have e2 : (a2 != a2) = false := by simp
  have e3 : (a3 != a3) = false := by simp
  have e4 : (a4 != a4) = false := by simp
  go_enter Try.func34, Try.ntmps34
  go_wp2
  go_ret
  exact ⟨rfl, ((Below.refl _ _).alloc (Nat.le_refl _) _).alloc (by simp) _⟩

theorem keep8 {w w0 w1 : World} {a1 a2 a3 a4 a5 a6 a7 a8 : Addr} {v1 v2 v3 v4 v5 v6 v7 v8 : Value}
    (h : w0.cell? a1 = some v1 ∧ w0.cell? a2 = some v2 ∧ w0.cell? a3 = some v3 ∧ w0.cell? a4 = some v4 ∧ w0.cell? a5 = some v5 ∧ w0.cell? a6 = some v6 ∧ w0.cell? a7 = some v7 ∧ w0.cell? a8 = some v8 ∧ Below w.heap.size w w0) (hb : Below w0.heap.size w0 w1) :
    w1.cell? a1 = some v1 ∧ w1.cell? a2 = some v2 ∧ w1.cell? a3 = some v3 ∧ w1.cell? a4 = some v4 ∧ w1.cell? a5 = some v5 ∧ w1.cell? a6 = some v6 ∧ w1.cell? a7 = some v7 ∧ w1.cell? a8 = some v8 ∧ Below w.heap.size w w1 := by
  obtain ⟨h1, h2, h3, h4, h5, h6, h7, h8, h9⟩ := h
  exact ⟨cell_later hb h1, cell_later hb h2, cell_later hb h3, cell_later hb h4, cell_later hb h5, cell_later hb h6, cell_later hb h7, cell_later hb h8, h9.trans (hb.mono h9.size)⟩
theorem keep8d {w w0 : World} {a1 a2 a3 a4 a5 a6 a7 a8 : Addr} {v1 v2 v3 v4 v5 v6 v7 v8 : Value}
    (h : w0.cell? a1 = some v1 ∧ w0.cell? a2 = some v2 ∧ w0.cell? a3 = some v3 ∧ w0.cell? a4 = some v4 ∧ w0.cell? a5 = some v5 ∧ w0.cell? a6 = some v6 ∧ w0.cell? a7 = some v7 ∧ w0.cell? a8 = some v8 ∧ Below w.heap.size w w0) :
    w0.drew.cell? a1 = some v1 ∧ w0.drew.cell? a2 = some v2 ∧ w0.drew.cell? a3 = some v3 ∧ w0.drew.cell? a4 = some v4 ∧ w0.drew.cell? a5 = some v5 ∧ w0.drew.cell? a6 = some v6 ∧ w0.drew.cell? a7 = some v7 ∧ w0.drew.cell? a8 = some v8 ∧ Below w.heap.size w w0.drew := by
  obtain ⟨h1, h2, h3, h4, h5, h6, h7, h8, h9⟩ := h
  exact ⟨h1, h2, h3, h4, h5, h6, h7, h8, h9.drew⟩

set_option maxHeartbeats 1600000 in
theorem eqcs_any (a b : Option Addr) (ca cb : Nat) (l : List Ch) (w : World) (hl : l.length ≤ 1048576) (ha : Chs w a l) (hb : Chs w b l) :
    Calls Try.prog 12 #[.slice a l.length ca, .slice b l.length cb] w fun e w' => e = .returned (.bool true) ∧ Below w.heap.size w w' := by
  have ha' := hide ha
  have hb' := hide hb
  clear ha hb
  have hne : ((l.length : Int) != l.length) = false := by simp
  go_enter Try.func12, Try.ntmps12
  go_wp2
  go_loopw [5] (fun t wr => ∃ k : Nat, k ≤ l.length ∧ t = .int .i64 k ∧ Below w.heap.size w wr) (fun t _ => l.length - (intOf t).toNat)
  case atStart => exact ⟨0, by omega, rfl, Below.refl _ _⟩
  case round =>
    obtain ⟨k, hk, rfl, hw⟩ := hrel
    by_cases hlt : k < l.length
    · obtain ⟨x1, x2, x3, x4, b1, o1, hx, rfl, i1, c0, c1, c2, c3⟩ := chs_at (unhide ha') hw hlt
      obtain ⟨y1, y2, y3, y4, b2, o2, hy, rfl, i2, e0, e1, e2, e3⟩ := chs_at (unhide hb') hw hlt
      rw [hx] at hy
      injection hy with hy
      injection hy with hy1 hy2
      injection hy2 with hy2 hy3
      injection hy3 with hy3 hy4
      subst hy1 hy2 hy3 hy4
      have hall : Hid (wr.cell? ⟨b1, o1 + k * 4, none⟩ = some (.int .i64 x1) ∧ wr.cell? ⟨b1, o1 + k * 4 + 1, none⟩ = some (.int .i64 x2) ∧ wr.cell? ⟨b1, o1 + k * 4 + 2, none⟩ = some (.int .i64 x3) ∧ wr.cell? ⟨b1, o1 + k * 4 + 3, none⟩ = some (.int .i64 x4) ∧ wr.cell? ⟨b2, o2 + k * 4, none⟩ = some (.int .i64 x1) ∧ wr.cell? ⟨b2, o2 + k * 4 + 1, none⟩ = some (.int .i64 x2) ∧ wr.cell? ⟨b2, o2 + k * 4 + 2, none⟩ = some (.int .i64 x3) ∧ wr.cell? ⟨b2, o2 + k * 4 + 3, none⟩ = some (.int .i64 x4) ∧ Below w.heap.size w wr) := hide ⟨c0, c1, c2, c3, e0, e1, e2, e3, hw⟩
      have hw' := hide hw
      clear hx c0 c1 c2 c3 e0 e1 e2 e3 hw
      go_wp2_with fail
      go_region_held3 (fun w' => w'.cell? ⟨b1, o1 + k * 4, none⟩ = some (.int .i64 x1) ∧ w'.cell? ⟨b1, o1 + k * 4 + 1, none⟩ = some (.int .i64 x2) ∧ w'.cell? ⟨b1, o1 + k * 4 + 2, none⟩ = some (.int .i64 x3) ∧ w'.cell? ⟨b1, o1 + k * 4 + 3, none⟩ = some (.int .i64 x4) ∧ w'.cell? ⟨b2, o2 + k * 4, none⟩ = some (.int .i64 x1) ∧ w'.cell? ⟨b2, o2 + k * 4 + 1, none⟩ = some (.int .i64 x2) ∧ w'.cell? ⟨b2, o2 + k * 4 + 2, none⟩ = some (.int .i64 x3) ∧ w'.cell? ⟨b2, o2 + k * 4 + 3, none⟩ = some (.int .i64 x4) ∧ Below w.heap.size w w')
        (first | (refine keep8 ?_ hb; assumption) | (exact keep8d (unhide hall)))
        ((go_at_call 34; refine (eqc_any x1 x2 x3 x4 _).mono ?_; rintro e w1 ⟨rfl, hb⟩))
      go_wp2
      go_roundw
      case rel => exact ⟨k + 1, by omega, by go_num, by rename_i hH; exact hH.2.2.2.2.2.2.2.2⟩
      case measure => simp [intOf]; omega
    · have hke : k = l.length := by omega
      go_wp2
      go_ret
      exact ⟨rfl, hw⟩

theorem mark_four {wr : World} {B g n cap k : Nat} {q : Int} {ys : List Value} (hlt : k < n) (hy : wr.ownsRow B 42 4 (.slice (some ⟨g, 0, none⟩) n cap) n ys) (hm : Mkd q (k * 4) ys) :
    ∃ ys, ((((wr.setCell ⟨g, k * 4, none⟩ (.int .i64 (q + k * 4))).setCell ⟨g, k * 4 + 1, none⟩ (.int .i64 (q + k * 4 + 1))).setCell ⟨g, k * 4 + 2, none⟩ (.int .i64 (q + k * 4 + 1 + 1))).setCell ⟨g, k * 4 + 3, none⟩ (.int .i64 (q + k * 4 + 1 + 1 + 1))).ownsRow B 42 4 (.slice (some ⟨g, 0, none⟩) n cap) n ys ∧ Mkd q ((k + 1) * 4) ys := by
  have hl : ys.length = n * 4 := hy.1
  have h1 := (hy.stored (k * 4) (iv (q + ((k * 4 : Nat) : Int)))).1
  have m1 := hm.set (by omega)
  have h2 := (h1.stored (k * 4 + 1) (iv (q + ((k * 4 + 1 : Nat) : Int)))).1
  have m2 := m1.set (by rw [List.length_set]; omega)
  have h3 := (h2.stored (k * 4 + 2) (iv (q + ((k * 4 + 2 : Nat) : Int)))).1
  have m3 := m2.set (by rw [List.length_set, List.length_set]; omega)
  have h4 := (h3.stored (k * 4 + 3) (iv (q + ((k * 4 + 3 : Nat) : Int)))).1
  have m4 := m3.set (by rw [List.length_set, List.length_set, List.length_set]; omega)
  have e1 : q + ((k * 4 : Nat) : Int) = q + k * 4 := by omega
  have e2 : q + ((k * 4 + 1 : Nat) : Int) = q + k * 4 + 1 := by omega
  have e3 : q + ((k * 4 + 2 : Nat) : Int) = q + k * 4 + 1 + 1 := by omega
  have e4 : q + ((k * 4 + 1 + 1 : Nat) : Int) = q + k * 4 + 1 + 1 := by omega
  have e6 : q + ((k * 4 + 3 : Nat) : Int) = q + k * 4 + 1 + 1 + 1 := by omega
  have e7 : q + ((k * 4 + 1 + 1 + 1 : Nat) : Int) = q + k * 4 + 1 + 1 + 1 := by omega
  have e5 : (k + 1) * 4 = k * 4 + 1 + 1 + 1 + 1 := by omega
  rw [e1, e2, e3, e6] at h4
  rw [e1, e2, e4, e7] at m4
  rw [e5]
  exact ⟨_, h4, m4⟩

set_option maxHeartbeats 800000 in
theorem markc_any (B g n cap : Nat) (q : Int) (xs : List Value) (w : World) (hn : n ≤ 10000000) (q0 : 0 ≤ q) (q1 : q ≤ 100000000) (h : w.ownsRow B 42 4 (.slice (some ⟨g, 0, none⟩) n cap) n xs) :
    Calls Try.prog 14 #[.slice (some ⟨g, 0, none⟩) n cap, .int .i64 q] w fun e w' => e = .returned (.int .i64 (q + n * 4)) ∧ (∃ ys, w'.ownsRow B 42 4 (.slice (some ⟨g, 0, none⟩) n cap) n ys ∧ Mkd q (n * 4) ys) ∧ w.grownBy w' (some g) := by
  have h' := hide h
  clear h
  go_enter Try.func14, Try.ntmps14
  go_wp2
  go_loopw [1, 5] (fun s t wr => ∃ k : Nat, k ≤ n ∧ t = .int .i64 k ∧ s = .int .i64 (q + k * 4) ∧ Hid (∃ ys, wr.ownsRow B 42 4 (.slice (some ⟨g, 0, none⟩) n cap) n ys ∧ Mkd q (k * 4) ys) ∧ Hid (w.grownBy wr (some g))) (fun _ t _ => n - (intOf t).toNat)
  case atStart => exact ⟨0, by omega, rfl, by simp, hide ⟨xs, unhide h', fun j hj => by omega⟩, hide (grown_refl _ _)⟩
  case round =>
    obtain ⟨k, hk, rfl, rfl, hown, hg⟩ := hrel
    by_cases hlt : k < n
    · obtain ⟨ys, hy, hm⟩ := unhide hown
      obtain ⟨v, c0, f0, _, hl⟩ := own_at (i := k * 4) hy (by omega)
      obtain ⟨v', c1, f1, _, _⟩ := own_at (i := k * 4 + 1) hy (by omega)
      obtain ⟨v'', c2, f2, _, _⟩ := own_at (i := k * 4 + 2) hy (by omega)
      obtain ⟨v3, c3, f3, _, _⟩ := own_at (i := k * 4 + 3) hy (by omega)
      have hnew := hide (mark_four hlt hy hm)
      clear hown hy hm hl
      go_wp2
      go_roundw
      case rel => exact ⟨k + 1, by omega, by go_num, by go_num, hnew, hide (grown_set (grown_set (grown_set (grown_set (unhide hg)))))⟩
      case measure => simp [intOf]; omega
    · have hke : k = n := by omega
      have hf : Hid (∃ ys, wr.ownsRow B 42 4 (.slice (some ⟨g, 0, none⟩) n cap) n ys ∧ Mkd q (n * 4) ys) := hide (by have := unhide hown; rw [hke] at this; exact this)
      clear hown
      go_wp2
      go_ret
      exact ⟨ret_int (by omega), unhide hf, unhide hg⟩

set_option maxHeartbeats 800000 in
theorem heldc_any (B g n cap : Nat) (q : Int) (xs : List Value) (w : World) (hn : n ≤ 10000000) (q0 : 0 ≤ q) (q1 : q ≤ 100000000) (h : w.ownsRow B 42 4 (.slice (some ⟨g, 0, none⟩) n cap) n xs) (hm : Mkd q (n * 4) xs) :
    Calls Try.prog 18 #[.slice (some ⟨g, 0, none⟩) n cap, .int .i64 q] w fun e w' => e = .returned (.int .i64 (q + n * 4)) ∧ w' = w := by
  have h' := hide h
  have hm' := hide hm
  clear h hm
  go_enter Try.func18, Try.ntmps18
  go_wp2
  go_loop [1, 5] (fun s t => ∃ k : Nat, k ≤ n ∧ t = .int .i64 k ∧ s = .int .i64 (q + k * 4)) (fun _ t => n - (intOf t).toNat)
  case atStart => exact ⟨0, by omega, rfl, by simp⟩
  case round =>
    obtain ⟨k, hk, rfl, rfl⟩ := hrel
    by_cases hlt : k < n
    · obtain ⟨v, c0, f0, hv, hl⟩ := own_at (i := k * 4) (unhide h') (by omega)
      obtain ⟨v', c1, f1, hv', _⟩ := own_at (i := k * 4 + 1) (unhide h') (by omega)
      obtain ⟨v'', c2, f2, hv'', _⟩ := own_at (i := k * 4 + 2) (unhide h') (by omega)
      obtain ⟨v3, c3, f3, hv3, _⟩ := own_at (i := k * 4 + 3) (unhide h') (by omega)
      rw [unhide hm' (k * 4) (by omega)] at hv
      rw [unhide hm' (k * 4 + 1) (by omega)] at hv'
      rw [unhide hm' (k * 4 + 2) (by omega)] at hv''
      rw [unhide hm' (k * 4 + 3) (by omega)] at hv3
      cases hv
      cases hv'
      cases hv''
      cases hv3
      have e1 : q + ((k * 4 : Nat) : Int) = q + k * 4 := by omega
      have e2 : q + ((k * 4 + 1 : Nat) : Int) = q + k * 4 + 1 := by omega
      have e3 : q + ((k * 4 + 2 : Nat) : Int) = q + k * 4 + 2 := by omega
      have e4 : q + ((k * 4 + 3 : Nat) : Int) = q + k * 4 + 3 := by omega
      rw [e1] at c0
      rw [e2] at c1
      rw [e3] at c2
      rw [e4] at c3
      have s0 : ((q + k * 4) != (q + k * 4)) = false := by simp
      have s1 : ((q + k * 4 + 1) != (q + k * 4 + 1)) = false := by simp
      have s2 : ((q + k * 4 + 2) != (q + k * 4 + 2)) = false := by simp
      have s3 : ((q + k * 4 + 3) != (q + k * 4 + 3)) = false := by simp
      clear f0 f1 f2 f3 hl e1 e2 e3 e4
      go_wp2
      go_round
      case rel => exact ⟨k + 1, by omega, by go_num, by go_num⟩
      case measure => simp [intOf]; omega
    · have hke : k = n := by omega
      go_wp2
      go_ret
      exact ⟨ret_int (by omega), rfl⟩

end Go.Proofs.Ytipabjijbnhhpaa
