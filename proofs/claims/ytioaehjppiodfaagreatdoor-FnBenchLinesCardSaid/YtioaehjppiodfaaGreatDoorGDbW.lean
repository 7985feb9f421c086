/-
  FnBenchLines, plain: the lines of a text, the half of them, undo.
  The model's draw of a text of the bench: its contract.
-/
import Derived.Test.YtioaehjppiodfaaGreatDoorGDbQ
namespace Go.Proofs.YtioaehjppiodfaaGreatDoor
open Go.RowKit
set_option linter.unusedVariables false
set_option linter.unusedSimpArgs false

/-- what is left behind the last end of a line -/
def tailC (c : List UInt8) : List (List UInt8) := if c = [] then [] else [c]
theorem fold_stC_app (l : List UInt8) : ∀ o c, (l.foldl stC (o, c)).1 = o ++ (l.foldl stC ([], c)).1 ∧ (l.foldl stC (o, c)).2 = (l.foldl stC ([], c)).2 := by
  induction l with
  | nil => intro o c; simp
  | cons b l ih =>
    intro o c
    rw [List.foldl_cons, List.foldl_cons]
    by_cases hb : b = 10
    · rw [show stC (o, c) b = (o ++ [c], []) from if_pos hb, show stC (([] : List (List UInt8)), c) b = ([] ++ [c], []) from if_pos hb]
      obtain ⟨h1, h2⟩ := ih (o ++ [c]) []
      obtain ⟨h3, h4⟩ := ih ([] ++ [c]) []
      rw [h1, h2, h3, h4]
      simp
    · rw [show stC (o, c) b = (o, c ++ [b]) from if_neg hb, show stC (([] : List (List UInt8)), c) b = ([], c ++ [b]) from if_neg hb]
      exact ih o (c ++ [b])
theorem splitN (l : List UInt8) (h : (10 : UInt8) ∉ l) : Ln.rawL l = tailC l := by
  induction l with
  | nil => rfl
  | cons b l ih =>
    rw [Ln.rawL, if_neg (fun e => h (by simp [e])), ih (fun e => h (by simp [e]))]
    cases l with
    | nil => rfl
    | cons c l => rfl
theorem lnL_eq : ∀ (n : Nat) (l : List UInt8), l.length ≤ n → lnL l = (fdC l).1 ++ tailC (fdC l).2 := by
  intro n
  induction n with
  | zero =>
    intro l hl
    have : l = [] := List.length_eq_zero_iff.1 (by omega)
    subst this
    rfl
  | succ n ih =>
    intro l hl
    by_cases h10 : (10 : UInt8) ∈ l
    · obtain ⟨p, r, e, hp⟩ := Ln.splitA l h10
      subst e
      have hr : r.length ≤ n := by simp at hl; omega
      have h1 := ih r hr
      unfold lnL
      rw [Ln.rawL_pre hp, List.map_cons, strip_nl]
      have h2 : (Ln.rawL r).map strip = lnL r := rfl
      rw [h2, h1]
      have e1 : fdC (p ++ 10 :: r) = (p :: (fdC r).1, (fdC r).2) := by
        unfold fdC
        rw [List.foldl_append, stC_run hp, List.foldl_cons, show stC (([] : List (List UInt8)), [] ++ p) 10 = ([] ++ [[] ++ p], []) from rfl]
        obtain ⟨h3, h4⟩ := fold_stC_app r ([] ++ [[] ++ p]) []
        apply Prod.ext
        · rw [h3]; simp
        · rw [h4]
      rw [e1]
      simp
    · have e1 : fdC l = ([], l) := by unfold fdC; rw [stC_run h10]; simp
      unfold lnL
      rw [splitN l h10, e1]
      unfold tailC
      split
      · rfl
      · simp [strip_no h10]
theorem lnl (l : List UInt8) : lnL l = (fdC l).1 ++ tailC (fdC l).2 := lnL_eq l.length l (Nat.le_refl _)
theorem fdC_no10 (l : List UInt8) : ∀ (o : List (List UInt8)) (c : List UInt8), (∀ x ∈ o, (10 : UInt8) ∉ x) → (10 : UInt8) ∉ c → (∀ x ∈ (l.foldl stC (o, c)).1, (10 : UInt8) ∉ x) ∧ (10 : UInt8) ∉ (l.foldl stC (o, c)).2 := by
  induction l with
  | nil => intro o c h1 h2; exact ⟨h1, h2⟩
  | cons b l ih =>
    intro o c h1 h2
    rw [List.foldl_cons]
    unfold stC
    split
    · refine ih _ _ (fun x hx => ?_) (by simp)
      rcases List.mem_append.1 hx with h | h
      · exact h1 x h
      · simp at h; subst h; exact h2
    · rename_i hb
      refine ih _ _ h1 ?_
      simp only [List.mem_append, List.mem_singleton, not_or]
      exact ⟨h2, fun e => hb e.symm⟩
theorem lnL_no10 (l : List UInt8) : ∀ x ∈ lnL l, (10 : UInt8) ∉ x := by
  intro x hx
  have h := fdC_no10 l [] [] (fun x hx => by cases hx) (by simp)
  rw [lnl] at hx
  rcases List.mem_append.1 hx with h1 | h1
  · exact h.1 x h1
  · unfold tailC at h1
    split at h1
    · cases h1
    · simp at h1; subst h1; exact h.2
theorem fdC_len (l : List UInt8) : ∀ (o : List (List UInt8)) (c : List UInt8), (flat (l.foldl stC (o, c)).1).length + (l.foldl stC (o, c)).2.length = (flat o).length + c.length + l.length := by
  induction l with
  | nil => intro o c; simp
  | cons b l ih =>
    intro o c
    rw [List.foldl_cons]
    by_cases hb : b = 10
    · rw [show stC (o, c) b = (o ++ [c], []) from if_pos hb, ih, flat_append]
      simp [flat]
      omega
    · rw [show stC (o, c) b = (o, c ++ [b]) from if_neg hb, ih]
      simp
      omega
theorem flat_lnL_len (l : List UInt8) : (flat (lnL l)).length ≤ l.length + 1 := by
  have h := fdC_len l [] []
  rw [lnl, flat_append, List.length_append]
  have e : (flat ([] : List (List UInt8))).length = 0 := rfl
  rw [e] at h
  have h2 : (flat (tailC (fdC l).2)).length ≤ (fdC l).2.length + 1 := by
    unfold tailC
    split
    · simp [flat]
    · simp [flat]
  unfold fdC at h2 ⊢
  simp at h
  omega
theorem flat_take_len (xs : List (List UInt8)) (k : Nat) : (flat (xs.take k)).length ≤ (flat xs).length := by
  conv => rhs; rw [← List.take_append_drop k xs]
  rw [flat_append, List.length_append]
  omega
theorem count_lnL (l : List UInt8) : l.count 10 ≤ (lnL l).length := by
  have : ∀ (l : List UInt8) (o : List (List UInt8)) (c : List UInt8), (l.foldl stC (o, c)).1.length = o.length + l.count 10 := by
    intro l
    induction l with
    | nil => intro o c; simp
    | cons b l ih =>
      intro o c
      rw [List.foldl_cons]
      by_cases hb : b = 10
      · rw [show stC (o, c) b = (o ++ [c], []) from if_pos hb, ih, List.length_append, List.count_cons, hb]
        simp
        omega
      · rw [show stC (o, c) b = (o, c ++ [b]) from if_neg hb, ih, List.count_cons_of_ne hb]
  rw [lnl, List.length_append]
  have h := this l [] []
  unfold fdC
  simp at h
  omega
theorem bench_many {t : List UInt8} (h : 200 < (lnL t).length) : benchL t = [] := by
  unfold lnL at h
  rw [List.length_map] at h
  unfold benchL
  rw [if_pos h]
  split <;> rfl
theorem take_no10 {xs : List (List UInt8)} (h : ∀ x ∈ xs, (10 : UInt8) ∉ x) (k : Nat) : ∀ x ∈ xs.take k, (10 : UInt8) ∉ x := fun x hx => h x (List.mem_of_mem_take hx)
/-- half of the lines: what comes later changes no answer -/
theorem bench_half {l : List UInt8} (h1 : l.length ≤ 4000) (h2 : (lnL l).length ≤ 200) (k : Nat) : benchL (flat ((lnL l).take k)) <+: benchL l := by
  have hn := lnL_flat (take_no10 (lnL_no10 l) k)
  have hl := flat_take_len (lnL l) k
  have hl2 := flat_lnL_len l
  rw [benchL_eq (t := l) (by omega) h2, benchL_eq (t := flat ((lnL l).take k)) (by omega) (by rw [hn, List.length_take]; omega), hn]
  refine ⟨flat (runS ((lnL l).drop k) (runS ((lnL l).take k) ([], [])).2).1, ?_⟩
  rw [← flat_append]
  have e := run_append ((lnL l).take k) ((lnL l).drop k) ([], [])
  rw [List.take_append_drop] at e
  rw [e]
theorem bench_count {l : List UInt8} (h1 : l.length ≤ 4000) (h2 : (lnL l).length ≤ 200) : (linesC (benchL l)).length = ((lnL l).filter (· ≠ [])).length := by
  rw [bench_lines (by omega) h2, run_len]

/-- the first track that there was is none -/
def Bot (s : Bch) : Prop := (s.2 ++ [s.1]).head? = some []
theorem bot_doE {r : Option (List Kl)} {s : Bch} (h : Bot s) : Bot (doE r s).2 ∧ (doE r s).2.2.length ≤ s.2.length + 1 := by
  cases r with
  | none => exact ⟨h, by simp [doE]⟩
  | some t =>
    refine ⟨?_, by simp [doE]⟩
    unfold Bot at h ⊢
    unfold doE
    dsimp only
    rw [List.head?_append, h]
    rfl
theorem bot_undo {s : Bch} (h : Bot s) : Bot (undoS s).2 ∧ (undoS s).2.2.length = s.2.length - 1 := by
  obtain ⟨tr, st⟩ := s
  rcases List.eq_nil_or_concat st with rfl | ⟨L, t, rfl⟩
  · exact ⟨h, rfl⟩
  · simp only [List.concat_eq_append] at *
    have hU : undoS (tr, L ++ [t]) = (.nums [lenOf t], (t, L)) := by simp [undoS]
    rw [hU]
    refine ⟨?_, by simp⟩
    unfold Bot at h ⊢
    dsimp only at h ⊢
    rw [List.append_assoc, List.head?_append] at h
    rw [List.head?_append]
    cases hL : L.head? with
    | none => rw [hL] at h; simpa using h
    | some x => rw [hL] at h; simpa using h
theorem bot_do (i : Nat) (L : List Int) {s : Bch} (h : Bot s) : Bot (doS i L s).2 ∧ (doS i L s).2.2.length ≤ s.2.length + 1 := by
  unfold doS
  split
  · exact bot_doE h
  · exact bot_doE h
  · exact bot_doE h
  · exact bot_doE h
  · exact bot_doE h
  · exact bot_doE h
  · exact bot_doE h
  · exact bot_doE h
  · have := bot_undo h; exact ⟨this.1, by omega⟩
  · unfold seeS; split <;> exact ⟨h, by dsimp only; omega⟩
  · exact ⟨h, by dsimp only; omega⟩
  · exact ⟨h, by show s.2.length ≤ _; omega⟩
  · exact ⟨h, by dsimp only; omega⟩
  · exact ⟨h, by dsimp only; omega⟩
theorem bot_line (X : List UInt8) {s : Bch} (h : Bot s) : Bot (lineS X s).2 ∧ (lineS X s).2.2.length ≤ s.2.length + 1 := by
  unfold lineS
  split
  · unfold tellS
    split
    · exact bot_do _ _ h
    · exact ⟨h, by dsimp only; omega⟩
  · exact ⟨h, by dsimp only; omega⟩
theorem bot_run : ∀ (xs : List (List UInt8)) (s : Bch), Bot s → Bot (runS xs s).2 ∧ (runS xs s).2.2.length ≤ s.2.length + xs.length := by
  intro xs
  induction xs with
  | nil => intro s h; exact ⟨h, by simp [runS]⟩
  | cons x xs ih =>
    intro s h
    by_cases hx : x = []
    · rw [runS, if_pos hx]
      have := ih s h
      exact ⟨this.1, by simp; omega⟩
    · rw [runS_cons hx]
      have h1 := bot_line x h
      have h2 := ih _ h1.1
      exact ⟨h2.1, by dsimp only; simp; omega⟩
def undoL : List UInt8 := [117, 110, 100, 111]
def showL : List UInt8 := [115, 104, 111, 119]
theorem line_undo (s : Bch) : lineS undoL s = undoS s := line_of (i := 8) (by omega) [] (fun x hx => by cases hx) s
theorem line_show (s : Bch) : lineS showL s = (.clips s.1, s) := line_of (i := 10) (by omega) [] (fun x hx => by cases hx) s
theorem run_undo : ∀ (m : Nat) (s : Bch), Bot s → s.2.length ≤ m → (runS (List.replicate m undoL) s).2 = ([], []) := by
  intro m
  induction m with
  | zero =>
    intro s h hl
    obtain ⟨tr, st⟩ := s
    have : st = [] := List.length_eq_zero_iff.1 (by simpa using hl)
    subst this
    unfold Bot at h
    simp at h
    subst h
    rfl
  | succ m ih =>
    intro s h hl
    rw [List.replicate_succ, runS_cons (by decide), line_undo]
    have := bot_undo h
    exact ih _ this.1 (by omega)
/-- behind as many undos as there are lines nothing is shown -/
theorem run_all (xs : List (List UInt8)) : ∃ ys, (runS (xs ++ List.replicate xs.length undoL ++ [showL]) ([], [])).1 = ys ++ [[111, 107]] := by
  have hb : Bot (([], []) : Bch) := rfl
  have h1 := bot_run xs ([], []) hb
  rw [run_append, run_append]
  dsimp only
  rw [run_undo xs.length _ h1.1 (by have := h1.2; simpa using this), runS_cons (by decide), line_show]
  exact ⟨_, rfl⟩
theorem all_flat_len {l : List UInt8} (h1 : l.length ≤ 4000) (h2 : (lnL l).length ≤ 60) : (flat (lnL l ++ List.replicate (lnL l).length undoL ++ [showL])).length ≤ 20000 := by
  have h := flat_lnL_len l
  have hr : ∀ m, (flat (List.replicate m undoL)).length = 5 * m := by
    intro m
    induction m with
    | zero => rfl
    | succ m ih => rw [List.replicate_succ, flat_cons, List.length_append, List.length_cons, ih]; show 4 + (5 * m + 1) = _; omega
  rw [flat_append, flat_append, List.length_append, List.length_append, hr]
  have : (flat [showL]).length = 5 := rfl
  omega
theorem all_lines {l : List UInt8} (h1 : l.length ≤ 4000) (h2 : (lnL l).length ≤ 60) : ∃ ys, linesC (benchL (flat (lnL l ++ List.replicate (lnL l).length undoL ++ [showL]))) = ys ++ [[111, 107]] ∧ ys.length ≤ 1000 := by
  have h10 : ∀ x ∈ lnL l ++ List.replicate (lnL l).length undoL ++ [showL], (10 : UInt8) ∉ x := by
    intro x hx
    rcases List.mem_append.1 hx with hx | hx
    · rcases List.mem_append.1 hx with hx | hx
      · exact lnL_no10 l x hx
      · rw [(List.mem_replicate.1 hx).2]; decide
    · simp at hx; subst hx; decide
  have hn := lnL_flat h10
  have hlen : (lnL l ++ List.replicate (lnL l).length undoL ++ [showL]).length ≤ 200 := by simp; omega
  rw [bench_lines (all_flat_len h1 h2) (by rw [hn]; exact hlen), hn]
  obtain ⟨ys, e⟩ := run_all (lnL l)
  refine ⟨ys, e, ?_⟩
  have := run_len (lnL l ++ List.replicate (lnL l).length undoL ++ [showL]) ([], [])
  rw [e, List.length_append] at this
  have h9 := List.length_filter_le (fun x => decide (x ≠ ([] : List UInt8))) (lnL l ++ List.replicate (lnL l).length undoL ++ [showL])
  omega
end Go.Proofs.YtioaehjppiodfaaGreatDoor

namespace Go.Proofs.YtioaehjppiodfaaGreatDoor
open Go.RowKit
set_option linter.unusedVariables false
set_option linter.unusedSimpArgs false

theorem conv_byte (x : Nat) (hx : x ≤ 255) (w : World) : (convert 22 9 (.slice (some ⟨w.heap.size, 0, none⟩) 1 1)).run Tryz.prog (w.alloc (.cells #[.int .u8 x] 5)) = .ok (.string ⟨#[UInt8.ofNat x]⟩) (w.alloc (.cells #[.int .u8 x] 5)) := by
  refine run_convert_bytes_back (P := Tryz.prog) _ 22 9 5 ⟨w.heap.size, 0, none⟩ 1 [UInt8.ofNat x] Tryz.underlying22 Tryz.underlying5 Tryz.underlying9 (fun j hj => ?_)
  match j, hj with
  | 0, _ =>
    have e : (UInt8.ofNat x).toNat = x := by simp; omega
    simp [Addr.add, e]
theorem HM.first {X : ByteArray} {q : Nat} (h : TxU X q) (hq : q ≤ 19) : X.size ≤ 700 := by have := h.2.1; omega
set_option maxRecDepth 100000 in
set_option maxHeartbeats 6400000 in
theorem dbench_any (a : Option Addr) (cap : Nat) (zs : List Int) (W : World) (hl : zs.length ≤ 4096) (hr : Row false 0 W.heap.size W a zs) :
    Calls Tryz.prog 11 #[.slice a zs.length cap] W fun e w' => ∃ X : ByteArray, e = .returned (.string X) ∧ TxOk X.data.toList ∧ Below W.heap.size W w' := by
  have hR := rdb_row hr
  generalize zs.length = len at *
  have hlen : len ≤ 9223372036854775807 := by omega
  have hN := hide (new_any a len cap W hlen (by omega) hR)
  have hR' := hide hR
  clear hr hR
  go_enter Tryz.func11, Tryz.ntmps11
  go_wp2_with fail
  refine (unhide hN).mono ?_
  rintro e w1 ⟨g, rfl, hBg, hc1, hb1⟩
  have hBW := hide hb1
  have D1 : Hid (DS w1 W.heap.size g a len cap w1) := hide ⟨hc1, rdb_later (unhide hR') hb1, World.grownBy.refl _ _⟩
  clear hN hc1 hb1 hR'
  go_wp2_with fail
  refine (below_any W.heap.size g a len cap 20 _ hBg hlen (unhide D1).cur (unhide D1).rd (by omega)).mono ?_
  rintro e w2 ⟨x, rfl, x0, x1, k1, g1⟩
  have D2 := hide ((unhide D1).step hBg k1 g1)
  clear k1 g1 D1
  obtain ⟨n, rfl⟩ := Int.eq_ofNat_of_zero_le x0
  have hn19 : n ≤ 19 := by omega
  clear x0 x1
  have U0 : Hid (TxU ⟨#[105, 110, 115, 101, 114, 116, 32, 48, 32, 49, 32, 53, 32, 50, 48, 10]⟩ (19 - n)) := hide ⟨HL.first, by show 16 ≤ _; omega, Nat.le_refl _⟩
  go_wp2
  go_loopw [4, 5] (fun s t wr => ∃ (X : ByteArray) (m : Nat), s = .string X ∧ t = .int .i64 m ∧ m ≤ 19 ∧ Hid (TxU X (19 - m)) ∧ Hid (DS w1 W.heap.size g a len cap wr)) (fun _ t _ => (intOf t).toNat)
  case atStart => exact ⟨_, n, rfl, rfl, hn19, U0, D2⟩
  case round =>
    clear U0 D2 hn19
    obtain ⟨X, m, rfl, rfl, hm, hX, D0⟩ := hrel
    by_cases hpos : 0 < m
    · have g1 : decide ((0 : Int) < m) = true := by simp; omega
      have hpos' : (0 : Int) < m := by omega
      go_wp2_with fail
      refine (below_any W.heap.size g a len cap 40 _ hBg hlen (unhide D0).cur (unhide D0).rd (by omega)).mono ?_
      rintro e w3 ⟨p, rfl, p0, p1, k1, g1⟩
      have D3 := hide ((unhide D0).step hBg k1 g1)
      clear k1 g1 D0
      have Cp := hide (fun w => int23_any p w (by omega) (by omega))
      obtain ⟨Da, eDa⟩ : ∃ D : ByteArray, nt p = D := ⟨_, rfl⟩
      have mA : Sm Da 2 := by rw [← eDa]; exact sm2 (by omega) (by omega)
      rw [eDa] at Cp
      clear eDa
      go_wp2_with fail
      refine (unhide Cp _).mono ?_
      rintro e w4 ⟨rfl, b1⟩
      have D4 := hide ((unhide D3).later hBg b1)
      clear b1 D3
      go_wp2_with fail
      refine (below_any W.heap.size g a len cap 12 _ hBg hlen (unhide D4).cur (unhide D4).rd (by omega)).mono ?_
      rintro e w5 ⟨q, rfl, q0, q1, k1, g1⟩
      have D5 := hide ((unhide D4).step hBg k1 g1)
      clear k1 g1 D4
      have Cq := hide (fun w => int23_any (1 + q) w (by omega) (by omega))
      obtain ⟨Db, eDb⟩ : ∃ D : ByteArray, nt (1 + q) = D := ⟨_, rfl⟩
      have mB : Sm Db 2 := by rw [← eDb]; exact sm2 (by omega) (by omega)
      rw [eDb] at Cq
      clear eDb
      go_wp2_with fail
      refine (unhide Cq _).mono ?_
      rintro e w6 ⟨rfl, b1⟩
      have D6 := hide ((unhide D5).later hBg b1)
      clear b1 D5
      go_wp2_with fail
      refine (below_any W.heap.size g a len cap 4 _ hBg hlen (unhide D6).cur (unhide D6).rd (by omega)).mono ?_
      rintro e w7 ⟨r, rfl, r0, r1, k1, g1⟩
      have D7 := hide ((unhide D6).step hBg k1 g1)
      clear k1 g1 D6
      have Cr := hide (fun w => int23_any r w (by omega) (by omega))
      obtain ⟨Dk, eDk⟩ : ∃ D : ByteArray, nt r = D := ⟨_, rfl⟩
      have mK : Sm Dk 1 := by rw [← eDk]; exact sm1 (by omega) (by omega)
      rw [eDk] at Cr
      clear eDk
      go_wp2_with fail
      refine (unhide Cr _).mono ?_
      rintro e w8 ⟨rfl, b1⟩
      have D8 := hide ((unhide D7).later hBg b1)
      clear b1 D7
      go_wp2_with fail
      refine (from_any W.heap.size g a len cap (-4) 4 _ hBg hlen (unhide D8).cur (unhide D8).rd (by omega) (by omega) (by omega)).mono ?_
      rintro e w9 ⟨u, rfl, u0, u1, k1, g1⟩
      have D9 := hide ((unhide D8).step hBg k1 g1)
      clear k1 g1 D8
      have Cu := hide (fun w => int23_any u w (by omega) (by omega))
      obtain ⟨Dv, eDv⟩ : ∃ D : ByteArray, nt u = D := ⟨_, rfl⟩
      have mV : Sm Dv 2 := by rw [← eDv]; exact smS (by omega) (by omega)
      rw [eDv] at Cu
      clear eDv
      go_wp2_with fail
      refine (unhide Cu _).mono ?_
      rintro e w10 ⟨rfl, b1⟩
      have D10 := hide ((unhide D9).later hBg b1)
      clear b1 D9
      go_wp2_with fail
      refine (below_any W.heap.size g a len cap 3 _ hBg hlen (unhide D10).cur (unhide D10).rd (by omega)).mono ?_
      rintro e w11 ⟨z, rfl, z0, z1, k1, g1⟩
      have D11 := hide ((unhide D10).step hBg k1 g1)
      clear k1 g1 D10
      have Cz := hide (fun w => int23_any (1 + z) w (by omega) (by omega))
      obtain ⟨Ds, eDs⟩ : ∃ D : ByteArray, nt (1 + z) = D := ⟨_, rfl⟩
      have mS : Sm Ds 1 := by rw [← eDs]; exact sm1 (by omega) (by omega)
      rw [eDs] at Cz
      clear eDs
      go_wp2_with fail
      refine (unhide Cz _).mono ?_
      rintro e w12 ⟨rfl, b1⟩
      have D12 := hide ((unhide D11).later hBg b1)
      clear b1 D11
      obtain ⟨S40, eS40⟩ : ∃ C : ByteArray, (⟨#[105, 110, 115, 101, 114, 116, 32]⟩ : ByteArray) ++ Da = C := ⟨_, rfl⟩
      have mS40 : Sm S40 9 := by rw [← eS40]; exact Sm.add (show Sm (⟨#[105, 110, 115, 101, 114, 116, 32]⟩ : ByteArray) 7 from ⟨Nat.le_refl _, by decide⟩) mA
      have PS40 := fun w => add_run eS40 (by have := (show Sm (⟨#[105, 110, 115, 101, 114, 116, 32]⟩ : ByteArray) 7 from ⟨Nat.le_refl _, by decide⟩).1; have := mA.1; omega) w
      obtain ⟨S41, eS41⟩ : ∃ C : ByteArray, S40 ++ (⟨#[32]⟩ : ByteArray) = C := ⟨_, rfl⟩
      have mS41 : Sm S41 10 := by rw [← eS41]; exact Sm.add mS40 (show Sm (⟨#[32]⟩ : ByteArray) 1 from ⟨Nat.le_refl _, by decide⟩)
      have PS41 := fun w => add_run eS41 (by have := mS40.1; have := (show Sm (⟨#[32]⟩ : ByteArray) 1 from ⟨Nat.le_refl _, by decide⟩).1; omega) w
      obtain ⟨S43, eS43⟩ : ∃ C : ByteArray, S41 ++ Ds = C := ⟨_, rfl⟩
      have mS43 : Sm S43 11 := by rw [← eS43]; exact Sm.add mS41 mS
      have PS43 := fun w => add_run eS43 (by have := mS41.1; have := mS.1; omega) w
      obtain ⟨S44, eS44⟩ : ∃ C : ByteArray, S43 ++ (⟨#[32]⟩ : ByteArray) = C := ⟨_, rfl⟩
      have mS44 : Sm S44 12 := by rw [← eS44]; exact Sm.add mS43 (show Sm (⟨#[32]⟩ : ByteArray) 1 from ⟨Nat.le_refl _, by decide⟩)
      have PS44 := fun w => add_run eS44 (by have := mS43.1; have := (show Sm (⟨#[32]⟩ : ByteArray) 1 from ⟨Nat.le_refl _, by decide⟩).1; omega) w
      obtain ⟨S46, eS46⟩ : ∃ C : ByteArray, S44 ++ Da = C := ⟨_, rfl⟩
      have mS46 : Sm S46 14 := by rw [← eS46]; exact Sm.add mS44 mA
      have PS46 := fun w => add_run eS46 (by have := mS44.1; have := mA.1; omega) w
      obtain ⟨S47, eS47⟩ : ∃ C : ByteArray, S46 ++ (⟨#[32]⟩ : ByteArray) = C := ⟨_, rfl⟩
      have mS47 : Sm S47 15 := by rw [← eS47]; exact Sm.add mS46 (show Sm (⟨#[32]⟩ : ByteArray) 1 from ⟨Nat.le_refl _, by decide⟩)
      have PS47 := fun w => add_run eS47 (by have := mS46.1; have := (show Sm (⟨#[32]⟩ : ByteArray) 1 from ⟨Nat.le_refl _, by decide⟩).1; omega) w
      obtain ⟨S49, eS49⟩ : ∃ C : ByteArray, S47 ++ Db = C := ⟨_, rfl⟩
      have mS49 : Sm S49 17 := by rw [← eS49]; exact Sm.add mS47 mB
      have PS49 := fun w => add_run eS49 (by have := mS47.1; have := mB.1; omega) w
      obtain ⟨S51, eS51⟩ : ∃ C : ByteArray, (⟨#[105, 110, 115, 101, 114, 116, 32, 48, 32]⟩ : ByteArray) ++ Ds = C := ⟨_, rfl⟩
      have mS51 : Sm S51 10 := by rw [← eS51]; exact Sm.add (show Sm (⟨#[105, 110, 115, 101, 114, 116, 32, 48, 32]⟩ : ByteArray) 9 from ⟨Nat.le_refl _, by decide⟩) mS
      have PS51 := fun w => add_run eS51 (by have := (show Sm (⟨#[105, 110, 115, 101, 114, 116, 32, 48, 32]⟩ : ByteArray) 9 from ⟨Nat.le_refl _, by decide⟩).1; have := mS.1; omega) w
      obtain ⟨S52, eS52⟩ : ∃ C : ByteArray, S51 ++ (⟨#[32, 55, 32]⟩ : ByteArray) = C := ⟨_, rfl⟩
      have mS52 : Sm S52 13 := by rw [← eS52]; exact Sm.add mS51 (show Sm (⟨#[32, 55, 32]⟩ : ByteArray) 3 from ⟨Nat.le_refl _, by decide⟩)
      have PS52 := fun w => add_run eS52 (by have := mS51.1; have := (show Sm (⟨#[32, 55, 32]⟩ : ByteArray) 3 from ⟨Nat.le_refl _, by decide⟩).1; omega) w
      obtain ⟨S54, eS54⟩ : ∃ C : ByteArray, S52 ++ Db = C := ⟨_, rfl⟩
      have mS54 : Sm S54 15 := by rw [← eS54]; exact Sm.add mS52 mB
      have PS54 := fun w => add_run eS54 (by have := mS52.1; have := mB.1; omega) w
      obtain ⟨S56, eS56⟩ : ∃ C : ByteArray, (⟨#[105, 110, 115, 101, 114, 116, 32, 51, 32, 48, 32, 48, 32]⟩ : ByteArray) ++ Db = C := ⟨_, rfl⟩
      have mS56 : Sm S56 15 := by rw [← eS56]; exact Sm.add (show Sm (⟨#[105, 110, 115, 101, 114, 116, 32, 51, 32, 48, 32, 48, 32]⟩ : ByteArray) 13 from ⟨Nat.le_refl _, by decide⟩) mB
      have PS56 := fun w => add_run eS56 (by have := (show Sm (⟨#[105, 110, 115, 101, 114, 116, 32, 51, 32, 48, 32, 48, 32]⟩ : ByteArray) 13 from ⟨Nat.le_refl _, by decide⟩).1; have := mB.1; omega) w
      obtain ⟨S58, eS58⟩ : ∃ C : ByteArray, (⟨#[111, 118, 101, 114, 32]⟩ : ByteArray) ++ Da = C := ⟨_, rfl⟩
      have mS58 : Sm S58 7 := by rw [← eS58]; exact Sm.add (show Sm (⟨#[111, 118, 101, 114, 32]⟩ : ByteArray) 5 from ⟨Nat.le_refl _, by decide⟩) mA
      have PS58 := fun w => add_run eS58 (by have := (show Sm (⟨#[111, 118, 101, 114, 32]⟩ : ByteArray) 5 from ⟨Nat.le_refl _, by decide⟩).1; have := mA.1; omega) w
      obtain ⟨S59, eS59⟩ : ∃ C : ByteArray, S58 ++ (⟨#[32]⟩ : ByteArray) = C := ⟨_, rfl⟩
      have mS59 : Sm S59 8 := by rw [← eS59]; exact Sm.add mS58 (show Sm (⟨#[32]⟩ : ByteArray) 1 from ⟨Nat.le_refl _, by decide⟩)
      have PS59 := fun w => add_run eS59 (by have := mS58.1; have := (show Sm (⟨#[32]⟩ : ByteArray) 1 from ⟨Nat.le_refl _, by decide⟩).1; omega) w
      obtain ⟨S61, eS61⟩ : ∃ C : ByteArray, S59 ++ Ds = C := ⟨_, rfl⟩
      have mS61 : Sm S61 9 := by rw [← eS61]; exact Sm.add mS59 mS
      have PS61 := fun w => add_run eS61 (by have := mS59.1; have := mS.1; omega) w
      obtain ⟨S62, eS62⟩ : ∃ C : ByteArray, S61 ++ (⟨#[32, 57, 32]⟩ : ByteArray) = C := ⟨_, rfl⟩
      have mS62 : Sm S62 12 := by rw [← eS62]; exact Sm.add mS61 (show Sm (⟨#[32, 57, 32]⟩ : ByteArray) 3 from ⟨Nat.le_refl _, by decide⟩)
      have PS62 := fun w => add_run eS62 (by have := mS61.1; have := (show Sm (⟨#[32, 57, 32]⟩ : ByteArray) 3 from ⟨Nat.le_refl _, by decide⟩).1; omega) w
      obtain ⟨S64, eS64⟩ : ∃ C : ByteArray, S62 ++ Db = C := ⟨_, rfl⟩
      have mS64 : Sm S64 14 := by rw [← eS64]; exact Sm.add mS62 mB
      have PS64 := fun w => add_run eS64 (by have := mS62.1; have := mB.1; omega) w
      obtain ⟨S66, eS66⟩ : ∃ C : ByteArray, (⟨#[101, 120, 116, 114, 97, 99, 116, 32]⟩ : ByteArray) ++ Da = C := ⟨_, rfl⟩
      have mS66 : Sm S66 10 := by rw [← eS66]; exact Sm.add (show Sm (⟨#[101, 120, 116, 114, 97, 99, 116, 32]⟩ : ByteArray) 8 from ⟨Nat.le_refl _, by decide⟩) mA
      have PS66 := fun w => add_run eS66 (by have := (show Sm (⟨#[101, 120, 116, 114, 97, 99, 116, 32]⟩ : ByteArray) 8 from ⟨Nat.le_refl _, by decide⟩).1; have := mA.1; omega) w
      obtain ⟨S67, eS67⟩ : ∃ C : ByteArray, S66 ++ (⟨#[32]⟩ : ByteArray) = C := ⟨_, rfl⟩
      have mS67 : Sm S67 11 := by rw [← eS67]; exact Sm.add mS66 (show Sm (⟨#[32]⟩ : ByteArray) 1 from ⟨Nat.le_refl _, by decide⟩)
      have PS67 := fun w => add_run eS67 (by have := mS66.1; have := (show Sm (⟨#[32]⟩ : ByteArray) 1 from ⟨Nat.le_refl _, by decide⟩).1; omega) w
      obtain ⟨S69, eS69⟩ : ∃ C : ByteArray, S67 ++ Db = C := ⟨_, rfl⟩
      have mS69 : Sm S69 13 := by rw [← eS69]; exact Sm.add mS67 mB
      have PS69 := fun w => add_run eS69 (by have := mS67.1; have := mB.1; omega) w
      obtain ⟨S71, eS71⟩ : ∃ C : ByteArray, (⟨#[101, 120, 116, 114, 97, 99, 116, 32, 49, 32]⟩ : ByteArray) ++ Db = C := ⟨_, rfl⟩
      have mS71 : Sm S71 12 := by rw [← eS71]; exact Sm.add (show Sm (⟨#[101, 120, 116, 114, 97, 99, 116, 32, 49, 32]⟩ : ByteArray) 10 from ⟨Nat.le_refl _, by decide⟩) mB
      have PS71 := fun w => add_run eS71 (by have := (show Sm (⟨#[101, 120, 116, 114, 97, 99, 116, 32, 49, 32]⟩ : ByteArray) 10 from ⟨Nat.le_refl _, by decide⟩).1; have := mB.1; omega) w
      obtain ⟨S73, eS73⟩ : ∃ C : ByteArray, (⟨#[108, 105, 102, 116, 32, 50, 32]⟩ : ByteArray) ++ Db = C := ⟨_, rfl⟩
      have mS73 : Sm S73 9 := by rw [← eS73]; exact Sm.add (show Sm (⟨#[108, 105, 102, 116, 32, 50, 32]⟩ : ByteArray) 7 from ⟨Nat.le_refl _, by decide⟩) mB
      have PS73 := fun w => add_run eS73 (by have := (show Sm (⟨#[108, 105, 102, 116, 32, 50, 32]⟩ : ByteArray) 7 from ⟨Nat.le_refl _, by decide⟩).1; have := mB.1; omega) w
      obtain ⟨S75, eS75⟩ : ∃ C : ByteArray, (⟨#[114, 111, 108, 108, 32]⟩ : ByteArray) ++ Dk = C := ⟨_, rfl⟩
      have mS75 : Sm S75 6 := by rw [← eS75]; exact Sm.add (show Sm (⟨#[114, 111, 108, 108, 32]⟩ : ByteArray) 5 from ⟨Nat.le_refl _, by decide⟩) mK
      have PS75 := fun w => add_run eS75 (by have := (show Sm (⟨#[114, 111, 108, 108, 32]⟩ : ByteArray) 5 from ⟨Nat.le_refl _, by decide⟩).1; have := mK.1; omega) w
      obtain ⟨S76, eS76⟩ : ∃ C : ByteArray, S75 ++ (⟨#[32]⟩ : ByteArray) = C := ⟨_, rfl⟩
      have mS76 : Sm S76 7 := by rw [← eS76]; exact Sm.add mS75 (show Sm (⟨#[32]⟩ : ByteArray) 1 from ⟨Nat.le_refl _, by decide⟩)
      have PS76 := fun w => add_run eS76 (by have := mS75.1; have := (show Sm (⟨#[32]⟩ : ByteArray) 1 from ⟨Nat.le_refl _, by decide⟩).1; omega) w
      obtain ⟨S78, eS78⟩ : ∃ C : ByteArray, S76 ++ Dv = C := ⟨_, rfl⟩
      have mS78 : Sm S78 9 := by rw [← eS78]; exact Sm.add mS76 mV
      have PS78 := fun w => add_run eS78 (by have := mS76.1; have := mV.1; omega) w
      obtain ⟨S80, eS80⟩ : ∃ C : ByteArray, (⟨#[115, 108, 105, 112, 32]⟩ : ByteArray) ++ Dk = C := ⟨_, rfl⟩
      have mS80 : Sm S80 6 := by rw [← eS80]; exact Sm.add (show Sm (⟨#[115, 108, 105, 112, 32]⟩ : ByteArray) 5 from ⟨Nat.le_refl _, by decide⟩) mK
      have PS80 := fun w => add_run eS80 (by have := (show Sm (⟨#[115, 108, 105, 112, 32]⟩ : ByteArray) 5 from ⟨Nat.le_refl _, by decide⟩).1; have := mK.1; omega) w
      obtain ⟨S81, eS81⟩ : ∃ C : ByteArray, S80 ++ (⟨#[32]⟩ : ByteArray) = C := ⟨_, rfl⟩
      have mS81 : Sm S81 7 := by rw [← eS81]; exact Sm.add mS80 (show Sm (⟨#[32]⟩ : ByteArray) 1 from ⟨Nat.le_refl _, by decide⟩)
      have PS81 := fun w => add_run eS81 (by have := mS80.1; have := (show Sm (⟨#[32]⟩ : ByteArray) 1 from ⟨Nat.le_refl _, by decide⟩).1; omega) w
      obtain ⟨S83, eS83⟩ : ∃ C : ByteArray, S81 ++ Dv = C := ⟨_, rfl⟩
      have mS83 : Sm S83 9 := by rw [← eS83]; exact Sm.add mS81 mV
      have PS83 := fun w => add_run eS83 (by have := mS81.1; have := mV.1; omega) w
      obtain ⟨S85, eS85⟩ : ∃ C : ByteArray, (⟨#[115, 108, 105, 100, 101, 32]⟩ : ByteArray) ++ Dk = C := ⟨_, rfl⟩
      have mS85 : Sm S85 7 := by rw [← eS85]; exact Sm.add (show Sm (⟨#[115, 108, 105, 100, 101, 32]⟩ : ByteArray) 6 from ⟨Nat.le_refl _, by decide⟩) mK
      have PS85 := fun w => add_run eS85 (by have := (show Sm (⟨#[115, 108, 105, 100, 101, 32]⟩ : ByteArray) 6 from ⟨Nat.le_refl _, by decide⟩).1; have := mK.1; omega) w
      obtain ⟨S86, eS86⟩ : ∃ C : ByteArray, S85 ++ (⟨#[32]⟩ : ByteArray) = C := ⟨_, rfl⟩
      have mS86 : Sm S86 8 := by rw [← eS86]; exact Sm.add mS85 (show Sm (⟨#[32]⟩ : ByteArray) 1 from ⟨Nat.le_refl _, by decide⟩)
      have PS86 := fun w => add_run eS86 (by have := mS85.1; have := (show Sm (⟨#[32]⟩ : ByteArray) 1 from ⟨Nat.le_refl _, by decide⟩).1; omega) w
      obtain ⟨S88, eS88⟩ : ∃ C : ByteArray, S86 ++ Dv = C := ⟨_, rfl⟩
      have mS88 : Sm S88 10 := by rw [← eS88]; exact Sm.add mS86 mV
      have PS88 := fun w => add_run eS88 (by have := mS86.1; have := mV.1; omega) w
      obtain ⟨S90, eS90⟩ : ∃ C : ByteArray, (⟨#[114, 105, 112, 112, 108, 101, 32]⟩ : ByteArray) ++ Dk = C := ⟨_, rfl⟩
      have mS90 : Sm S90 8 := by rw [← eS90]; exact Sm.add (show Sm (⟨#[114, 105, 112, 112, 108, 101, 32]⟩ : ByteArray) 7 from ⟨Nat.le_refl _, by decide⟩) mK
      have PS90 := fun w => add_run eS90 (by have := (show Sm (⟨#[114, 105, 112, 112, 108, 101, 32]⟩ : ByteArray) 7 from ⟨Nat.le_refl _, by decide⟩).1; have := mK.1; omega) w
      obtain ⟨S91, eS91⟩ : ∃ C : ByteArray, S90 ++ (⟨#[32]⟩ : ByteArray) = C := ⟨_, rfl⟩
      have mS91 : Sm S91 9 := by rw [← eS91]; exact Sm.add mS90 (show Sm (⟨#[32]⟩ : ByteArray) 1 from ⟨Nat.le_refl _, by decide⟩)
      have PS91 := fun w => add_run eS91 (by have := mS90.1; have := (show Sm (⟨#[32]⟩ : ByteArray) 1 from ⟨Nat.le_refl _, by decide⟩).1; omega) w
      obtain ⟨S93, eS93⟩ : ∃ C : ByteArray, S91 ++ Dv = C := ⟨_, rfl⟩
      have mS93 : Sm S93 11 := by rw [← eS93]; exact Sm.add mS91 mV
      have PS93 := fun w => add_run eS93 (by have := mS91.1; have := mV.1; omega) w
      obtain ⟨S95, eS95⟩ : ∃ C : ByteArray, (⟨#[97, 116, 32]⟩ : ByteArray) ++ Da = C := ⟨_, rfl⟩
      have mS95 : Sm S95 5 := by rw [← eS95]; exact Sm.add (show Sm (⟨#[97, 116, 32]⟩ : ByteArray) 3 from ⟨Nat.le_refl _, by decide⟩) mA
      have PS95 := fun w => add_run eS95 (by have := (show Sm (⟨#[97, 116, 32]⟩ : ByteArray) 3 from ⟨Nat.le_refl _, by decide⟩).1; have := mA.1; omega) w
      have hpk := hide (fun (j : Nat) (hj : j < 17) => pick17 mS49 mS54 mS56 mS64 mS69 mS71 mS73 mS78 mS83 mS88 mS93 mS95 hj)
      clear eS40 mS40 eS41 mS41 eS43 mS43 eS44 mS44 eS46 mS46 eS47 mS47 eS49 mS49 eS51 mS51 eS52 mS52 eS54 mS54 eS56 mS56 eS58 mS58 eS59 mS59 eS61 mS61 eS62 mS62 eS64 mS64 eS66 mS66 eS67 mS67 eS69 mS69 eS71 mS71 eS73 mS73 eS75 mS75 eS76 mS76 eS78 mS78 eS80 mS80 eS81 mS81 eS83 mS83 eS85 mS85 eS86 mS86 eS88 mS88 eS90 mS90 eS91 mS91 eS93 mS93 eS95 mS95 mA mB mK mV mS
      have hbk := hide (show (w12.alloc (.cells #[.string S49, .string S54, .string S56, .string S64, .string S69, .string S71, .string S73, .string S78, .string S83, .string S88, .string S93, .string (⟨#[117, 110, 100, 111]⟩ : ByteArray), .string (⟨#[117, 110, 100, 111]⟩ : ByteArray), .string S95, .string (⟨#[115, 104, 111, 119]⟩ : ByteArray), .string (⟨#[99, 104, 97, 110, 103, 101, 115]⟩ : ByteArray), .string (⟨#[115, 117, 109]⟩ : ByteArray)] 9)).heap[w12.heap.size]? = some (.cells #[.string S49, .string S54, .string S56, .string S64, .string S69, .string S71, .string S73, .string S78, .string S83, .string S88, .string S93, .string (⟨#[117, 110, 100, 111]⟩ : ByteArray), .string (⟨#[117, 110, 100, 111]⟩ : ByteArray), .string S95, .string (⟨#[115, 104, 111, 119]⟩ : ByteArray), .string (⟨#[99, 104, 97, 110, 103, 101, 115]⟩ : ByteArray), .string (⟨#[115, 117, 109]⟩ : ByteArray)] 9 (0, 0)) from World.alloc_heap_new _ _)
      have D13 := hide ((unhide D12).later hBg ((Below.refl w12.heap.size w12).alloc (Nat.le_refl _) (.cells #[.string S49, .string S54, .string S56, .string S64, .string S69, .string S71, .string S73, .string S78, .string S83, .string S88, .string S93, .string (⟨#[117, 110, 100, 111]⟩ : ByteArray), .string (⟨#[117, 110, 100, 111]⟩ : ByteArray), .string S95, .string (⟨#[115, 104, 111, 119]⟩ : ByteArray), .string (⟨#[99, 104, 97, 110, 103, 101, 115]⟩ : ByteArray), .string (⟨#[115, 117, 109]⟩ : ByteArray)] 9)))
      have hEg : w12.heap.size ≠ g := by have := (unhide D12).cur.lt; omega
      clear D12
      go_wp2_with fail
      refine (below_any W.heap.size g a len cap 17 _ hBg hlen (unhide D13).cur (unhide D13).rd (by omega)).mono ?_
      rintro e w14 ⟨j, rfl, j0, j1, k1, g1⟩
      obtain ⟨j, rfl⟩ := Int.eq_ofNat_of_zero_le j0
      obtain ⟨Z, hZ, sZ⟩ := unhide hpk j (by omega)
      have cZ := grown_cell g1 hEg (cells_at (cs := [.string S49, .string S54, .string S56, .string S64, .string S69, .string S71, .string S73, .string S78, .string S83, .string S88, .string S93, .string (⟨#[117, 110, 100, 111]⟩ : ByteArray), .string (⟨#[117, 110, 100, 111]⟩ : ByteArray), .string S95, .string (⟨#[115, 104, 111, 119]⟩ : ByteArray), .string (⟨#[99, 104, 97, 110, 103, 101, 115]⟩ : ByteArray), .string (⟨#[115, 117, 109]⟩ : ByteArray)]) (unhide hbk) hZ)
      have D14 := hide ((unhide D13).step hBg k1 g1)
      have hj17 : (j : Int) < 17 := by omega
      clear k1 g1 D13 hbk hpk hZ hEg j0 j1 PS40 PS41 PS43 PS44 PS46 PS47 PS49 PS51 PS52 PS54 PS56 PS58 PS59 PS61 PS62 PS64 PS66 PS67 PS69 PS71 PS73 PS75 PS76 PS78 PS80 PS81 PS83 PS85 PS86 PS88 PS90 PS91 PS93 PS95
      have hX7 := (unhide hX).2.1
      obtain ⟨C1, eC1⟩ : ∃ C : ByteArray, X ++ Z = C := ⟨_, rfl⟩
      obtain ⟨C2, eC2⟩ : ∃ C : ByteArray, C1 ++ ⟨#[10]⟩ = C := ⟨_, rfl⟩
      have sC1 : C1.size ≤ 1000 := by rw [← eC1, size_app]; have := sZ.1; omega
      have PC1 := fun w => add_run eC1 (by have := sZ.1; omega) w
      have PC2 := fun w => add_run eC2 (by show C1.size + 1 ≤ _; omega) w
      have U2 := hide (TxU.add (c := 16 + 36 * (19 - m)) (unhide hX).1 (unhide hX).2.1 (unhide hX).2.2 sZ (show X ++ Z ++ ⟨#[10]⟩ = C2 by rw [eC1, eC2]))
      clear eC1 eC2 sZ sC1 hX7
      go_wp2_with fail
      refine (once_any W.heap.size g a len cap 14 _ hBg hlen (unhide D14).cur (unhide D14).rd (by omega)).mono ?_
      rintro e w15 ⟨vb, rfl, k1, g1⟩
      have D15 := hide ((unhide D14).step hBg k1 g1)
      clear k1 g1 D14 cZ PC1 PC2
      cases vb with
      | false =>
        have hmm : IntKind.i64.wrap ((m : Int) - 1) = ((m - 1 : Nat) : Int) := by rw [IntKind.wrap_i64]; omega
        go_wp2
        go_roundw
        case rel => exact ⟨C2, m - 1, rfl, by first | rfl | (congr 1; omega), by omega, hide ⟨(unhide U2).1, by have := (unhide U2).2.1; omega, (unhide U2).2.2⟩, D15⟩
        case measure => simp [intOf]; omega
      | true =>
        have hbk := hide (show (w15.alloc (.cells #[.string (⟨#[10]⟩ : ByteArray), .string (⟨#[117, 110, 100, 111, 32, 49, 10]⟩ : ByteArray), .string (⟨#[115, 104, 111, 119, 32, 10]⟩ : ByteArray), .string (⟨#[32, 115, 104, 111, 119, 10]⟩ : ByteArray), .string (⟨#[97, 116, 10]⟩ : ByteArray), .string (⟨#[97, 116, 32, 45, 49, 10]⟩ : ByteArray), .string (⟨#[97, 116, 32, 48, 49, 10]⟩ : ByteArray), .string (⟨#[105, 110, 115, 101, 114, 116, 32, 48, 32, 53, 48, 49, 32, 48, 32, 49, 10]⟩ : ByteArray), .string (⟨#[105, 110, 115, 101, 114, 116, 32, 48, 32, 48, 32, 49, 32, 49, 10]⟩ : ByteArray), .string (⟨#[119, 104, 97, 116, 10]⟩ : ByteArray), .string (⟨#[32, 10]⟩ : ByteArray), .string (⟨#[108, 105, 102, 116, 32, 48, 32, 48, 10]⟩ : ByteArray)] 9)).heap[w15.heap.size]? = some (.cells #[.string (⟨#[10]⟩ : ByteArray), .string (⟨#[117, 110, 100, 111, 32, 49, 10]⟩ : ByteArray), .string (⟨#[115, 104, 111, 119, 32, 10]⟩ : ByteArray), .string (⟨#[32, 115, 104, 111, 119, 10]⟩ : ByteArray), .string (⟨#[97, 116, 10]⟩ : ByteArray), .string (⟨#[97, 116, 32, 45, 49, 10]⟩ : ByteArray), .string (⟨#[97, 116, 32, 48, 49, 10]⟩ : ByteArray), .string (⟨#[105, 110, 115, 101, 114, 116, 32, 48, 32, 53, 48, 49, 32, 48, 32, 49, 10]⟩ : ByteArray), .string (⟨#[105, 110, 115, 101, 114, 116, 32, 48, 32, 48, 32, 49, 32, 49, 10]⟩ : ByteArray), .string (⟨#[119, 104, 97, 116, 10]⟩ : ByteArray), .string (⟨#[32, 10]⟩ : ByteArray), .string (⟨#[108, 105, 102, 116, 32, 48, 32, 48, 10]⟩ : ByteArray)] 9 (0, 0)) from World.alloc_heap_new _ _)
        have D16 := hide ((unhide D15).later hBg ((Below.refl w15.heap.size w15).alloc (Nat.le_refl _) (.cells #[.string (⟨#[10]⟩ : ByteArray), .string (⟨#[117, 110, 100, 111, 32, 49, 10]⟩ : ByteArray), .string (⟨#[115, 104, 111, 119, 32, 10]⟩ : ByteArray), .string (⟨#[32, 115, 104, 111, 119, 10]⟩ : ByteArray), .string (⟨#[97, 116, 10]⟩ : ByteArray), .string (⟨#[97, 116, 32, 45, 49, 10]⟩ : ByteArray), .string (⟨#[97, 116, 32, 48, 49, 10]⟩ : ByteArray), .string (⟨#[105, 110, 115, 101, 114, 116, 32, 48, 32, 53, 48, 49, 32, 48, 32, 49, 10]⟩ : ByteArray), .string (⟨#[105, 110, 115, 101, 114, 116, 32, 48, 32, 48, 32, 49, 32, 49, 10]⟩ : ByteArray), .string (⟨#[119, 104, 97, 116, 10]⟩ : ByteArray), .string (⟨#[32, 10]⟩ : ByteArray), .string (⟨#[108, 105, 102, 116, 32, 48, 32, 48, 10]⟩ : ByteArray)] 9)))
        have hEg : w15.heap.size ≠ g := by have := (unhide D15).cur.lt; omega
        clear D15
        go_wp2_with fail
        refine (below_any W.heap.size g a len cap 12 _ hBg hlen (unhide D16).cur (unhide D16).rd (by omega)).mono ?_
        rintro e w17 ⟨i, rfl, i0, i1, k1, g1⟩
        obtain ⟨i, rfl⟩ := Int.eq_ofNat_of_zero_le i0
        obtain ⟨Y, hY, sY⟩ := pick12 (j := i) (by omega)
        have cY := grown_cell g1 hEg (cells_at (cs := [.string (⟨#[10]⟩ : ByteArray), .string (⟨#[117, 110, 100, 111, 32, 49, 10]⟩ : ByteArray), .string (⟨#[115, 104, 111, 119, 32, 10]⟩ : ByteArray), .string (⟨#[32, 115, 104, 111, 119, 10]⟩ : ByteArray), .string (⟨#[97, 116, 10]⟩ : ByteArray), .string (⟨#[97, 116, 32, 45, 49, 10]⟩ : ByteArray), .string (⟨#[97, 116, 32, 48, 49, 10]⟩ : ByteArray), .string (⟨#[105, 110, 115, 101, 114, 116, 32, 48, 32, 53, 48, 49, 32, 48, 32, 49, 10]⟩ : ByteArray), .string (⟨#[105, 110, 115, 101, 114, 116, 32, 48, 32, 48, 32, 49, 32, 49, 10]⟩ : ByteArray), .string (⟨#[119, 104, 97, 116, 10]⟩ : ByteArray), .string (⟨#[32, 10]⟩ : ByteArray), .string (⟨#[108, 105, 102, 116, 32, 48, 32, 48, 10]⟩ : ByteArray)]) (unhide hbk) hY)
        have D17 := hide ((unhide D16).step hBg k1 g1)
        have hi12 : (i : Int) < 12 := by omega
        obtain ⟨Y1, eY1⟩ : ∃ C : ByteArray, Y ++ ⟨#[10]⟩ = C := ⟨_, rfl⟩
        obtain ⟨C3, eC3⟩ : ∃ C : ByteArray, C2 ++ Y1 = C := ⟨_, rfl⟩
        rw [eY1] at cY
        have s2 := (unhide U2).2.1
        have sY1 : Y1.size ≤ 18 := by rw [← eY1, size_app]; have := sY.1; have e1 : (⟨#[10]⟩ : ByteArray).size = 1 := rfl; omega
        have PC3 := fun w => add_run eC3 (by omega) w
        have U3 := hide (TxU.add (c := 16 + 36 * (19 - m) + 18) (unhide U2).1 (unhide U2).2.1 (unhide U2).2.2 sY (show C2 ++ Y ++ ⟨#[10]⟩ = C3 by rw [← eC3, ← eY1, ByteArray.append_assoc]))
        clear k1 g1 D16 hbk hY hEg i0 i1 eY1 eC3 sY s2 U2 sY1
        have hmm : IntKind.i64.wrap ((m : Int) - 1) = ((m - 1 : Nat) : Int) := by rw [IntKind.wrap_i64]; omega
        go_wp2
        go_roundw
        case rel => exact ⟨C3, m - 1, rfl, by first | rfl | (congr 1; omega), by omega, hide ⟨(unhide U3).1, by have := (unhide U3).2.1; omega, (unhide U3).2.2⟩, D17⟩
        case measure => simp [intOf]; omega
    · obtain rfl : m = 0 := by omega
      have hX7 := hide (show X.size ≤ 700 from by have := (unhide hX).2.1; omega)
      have h16 := (unhide hX).2.2
      go_wp2_with fail
      refine (once_any W.heap.size g a len cap 6 _ hBg hlen (unhide D0).cur (unhide D0).rd (by omega)).mono ?_
      rintro e w20 ⟨vd, rfl, k1, g1⟩
      have D20 := hide ((unhide D0).step hBg k1 g1)
      clear k1 g1 D0
      cases vd with
      | false =>
        have hY0 := hide ((unhide hX).1.hm (by rw [← Lib.size_eq]; have := unhide hX7; omega))
        have D0 := D20
        clear D20 hX hX7 h16
        generalize X = Y0 at *
        go_wp2_with fail
        refine (once_any W.heap.size g a len cap 60 _ hBg hlen (unhide D0).cur (unhide D0).rd (by omega)).mono ?_
        rintro e wA ⟨vc, rfl, k1, g1⟩
        have DA := hide ((unhide D0).step hBg k1 g1)
        clear k1 g1 D0
        cases vc with
        | false =>
          have hfin := hide (show ∃ X' : ByteArray, Ending.returned (.string Y0) = .returned (.string X') ∧ TxOk X'.data.toList ∧ Below W.heap.size W wA from ⟨Y0, rfl, (unhide hY0).ok (by omega), below_grown (unhide hBW) (unhide DA).gr hBg⟩)
          go_wp2
          go_ret
          exact unhide hfin
        | true =>
          go_wp2_with fail
          refine (below_any W.heap.size g a len cap 5 _ hBg hlen (unhide DA).cur (unhide DA).rd (by omega)).mono ?_
          rintro e wB ⟨y, rfl, y0, y1, k1, g1⟩
          obtain ⟨N, rfl⟩ := Int.eq_ofNat_of_zero_le y0
          have DB := hide ((unhide DA).step hBg k1 g1)
          have hN4 : N ≤ 4 := by omega
          have hpw : 1 * 2 ^ N ≤ 16 := by
            have hc : N = 0 ∨ N = 1 ∨ N = 2 ∨ N = 3 ∨ N = 4 := by omega
            rcases hc with rfl | rfl | rfl | rfl | rfl <;> decide
          have hpw' := hide hpw
          clear k1 g1 DA y0 y1 hpw
          go_wp2
          go_loopw [4, 12] (fun s t wr => ∃ (Y : ByteArray) (i M : Nat), s = .string Y ∧ t = .int .i64 i ∧ i ≤ 4 ∧ Hid (HM Y.data.toList M ∧ M * 2 ^ i ≤ 16) ∧ Hid (DS w1 W.heap.size g a len cap wr)) (fun _ t _ => (intOf t).toNat)
          case atStart => exact ⟨Y0, N, 1, rfl, rfl, hN4, hide ⟨unhide hY0, unhide hpw'⟩, DB⟩
          case round =>
            clear DB hpw' hY0
            obtain ⟨Y, i, M, rfl, rfl, hi4, hYM, DC⟩ := hrel
            by_cases hip : 0 < i
            · have q1 : decide ((0 : Int) < i) = true := by simp; omega
              have hip' : (0 : Int) < i := by omega
              have hMp : M ≤ 16 := by have h1 := (unhide hYM).2; have h2 : 1 ≤ 2 ^ i := Nat.one_le_two_pow; exact Nat.le_trans (Nat.le_mul_of_pos_right M h2) h1
              obtain ⟨V, eV⟩ : ∃ C : ByteArray, Y ++ Y = C := ⟨_, rfl⟩
              have hYs : Y.size ≤ 20000 := by have := ((unhide hYM).1.ok hMp).1; rw [Lib.size_eq]; exact this
              have PV := fun w => add_run eV (by omega) w
              have hVM := hide (show HM V.data.toList (2 * M) ∧ 2 * M * 2 ^ (i - 1) ≤ 16 from by
                refine ⟨by rw [← eV, data_app]; exact (unhide hYM).1.twice, ?_⟩
                have h1 := (unhide hYM).2
                obtain ⟨i', rfl⟩ : ∃ i', i = i' + 1 := ⟨i - 1, by omega⟩
                rw [Nat.pow_succ] at h1
                rw [Nat.add_sub_cancel]
                rw [show 2 * M * 2 ^ i' = M * (2 ^ i' * 2) by rw [Nat.mul_comm (2 ^ i') 2, ← Nat.mul_assoc, Nat.mul_comm M 2]]
                exact h1)
              have hmm : IntKind.i64.wrap ((i : Int) - 1) = ((i - 1 : Nat) : Int) := by rw [IntKind.wrap_i64]; omega
              clear eV hYM
              go_wp2
              go_roundw
              case rel => exact ⟨V, i - 1, 2 * M, rfl, by first | rfl | (congr 1; omega), by omega, hVM, DC⟩
              case measure => simp [intOf]; omega
            · obtain rfl : i = 0 := by omega
              have hfin := hide (show ∃ X' : ByteArray, Ending.returned (.string Y) = .returned (.string X') ∧ TxOk X'.data.toList ∧ Below W.heap.size W wr from ⟨Y, rfl, (unhide hYM).1.ok (by have := (unhide hYM).2; simpa using this), below_grown (unhide hBW) (unhide DC).gr hBg⟩)
              clear hYM DC
              go_wp2
              go_ret
              exact unhide hfin
      | true =>
        have h1s : decide ((1 : Int) < X.size) = true := by simp; omega
        have hsz0 : (0 : Int) < X.size := by omega
        go_wp2_with fail
        refine (below_any W.heap.size g a len cap X.size _ hBg hlen (unhide D20).cur (unhide D20).rd (by omega)).mono ?_
        rintro e w21 ⟨kx, rfl, kx0, kx1, k1, g1⟩
        obtain ⟨k, rfl⟩ := Int.eq_ofNat_of_zero_le kx0
        have D21 := hide ((unhide D20).step hBg k1 g1)
        have hk9 : k < X.size := by omega
        have hk8 : (k : Int) ≤ X.size := by omega
        clear k1 g1 D20 kx0
        go_wp2_with fail
        refine (below_any W.heap.size g a len cap 3 _ hBg hlen (unhide D21).cur (unhide D21).rd (by omega)).mono ?_
        rintro e w22 ⟨c3, rfl, c30, c31, k1, g1⟩
        have D22 := hide ((unhide D21).step hBg k1 g1)
        clear k1 g1 D21
        have hc3 : c3 = 0 ∨ c3 = 1 ∨ c3 = 2 := by omega
        rcases hc3 with rfl | rfl | rfl
        · obtain ⟨A1, eA1⟩ : ∃ C : ByteArray, X.extract 0 k = C := ⟨_, rfl⟩
          have hY0 := hide (show HM A1.data.toList 1 from by
            rw [← eA1, Ln.ext_str rfl (Nat.zero_le _)]
            have := (unhide hX).1.cut (by rw [← Lib.size_eq]; have := unhide hX7; omega) k
            simpa using this)
          have D0 := D22
          clear D22 hX hX7 h16
          go_upto_region 23 with fail
          generalize A1 = Y0 at *
          go_wp2_with fail
          refine (once_any W.heap.size g a len cap 60 _ hBg hlen (unhide D0).cur (unhide D0).rd (by omega)).mono ?_
          rintro e wA ⟨vc, rfl, k1, g1⟩
          have DA := hide ((unhide D0).step hBg k1 g1)
          clear k1 g1 D0
          cases vc with
          | false =>
            have hfin := hide (show ∃ X' : ByteArray, Ending.returned (.string Y0) = .returned (.string X') ∧ TxOk X'.data.toList ∧ Below W.heap.size W wA from ⟨Y0, rfl, (unhide hY0).ok (by omega), below_grown (unhide hBW) (unhide DA).gr hBg⟩)
            go_wp2
            go_ret
            exact unhide hfin
          | true =>
            go_wp2_with fail
            refine (below_any W.heap.size g a len cap 5 _ hBg hlen (unhide DA).cur (unhide DA).rd (by omega)).mono ?_
            rintro e wB ⟨y, rfl, y0, y1, k1, g1⟩
            obtain ⟨N, rfl⟩ := Int.eq_ofNat_of_zero_le y0
            have DB := hide ((unhide DA).step hBg k1 g1)
            have hN4 : N ≤ 4 := by omega
            have hpw : 1 * 2 ^ N ≤ 16 := by
              have hc : N = 0 ∨ N = 1 ∨ N = 2 ∨ N = 3 ∨ N = 4 := by omega
              rcases hc with rfl | rfl | rfl | rfl | rfl <;> decide
            have hpw' := hide hpw
            clear k1 g1 DA y0 y1 hpw
            go_wp2
            go_loopw [4, 12] (fun s t wr => ∃ (Y : ByteArray) (i M : Nat), s = .string Y ∧ t = .int .i64 i ∧ i ≤ 4 ∧ Hid (HM Y.data.toList M ∧ M * 2 ^ i ≤ 16) ∧ Hid (DS w1 W.heap.size g a len cap wr)) (fun _ t _ => (intOf t).toNat)
            case atStart => exact ⟨Y0, N, 1, rfl, rfl, hN4, hide ⟨unhide hY0, unhide hpw'⟩, DB⟩
            case round =>
              clear DB hpw' hY0
              obtain ⟨Y, i, M, rfl, rfl, hi4, hYM, DC⟩ := hrel
              by_cases hip : 0 < i
              · have q1 : decide ((0 : Int) < i) = true := by simp; omega
                have hip' : (0 : Int) < i := by omega
                have hMp : M ≤ 16 := by have h1 := (unhide hYM).2; have h2 : 1 ≤ 2 ^ i := Nat.one_le_two_pow; exact Nat.le_trans (Nat.le_mul_of_pos_right M h2) h1
                obtain ⟨V, eV⟩ : ∃ C : ByteArray, Y ++ Y = C := ⟨_, rfl⟩
                have hYs : Y.size ≤ 20000 := by have := ((unhide hYM).1.ok hMp).1; rw [Lib.size_eq]; exact this
                have PV := fun w => add_run eV (by omega) w
                have hVM := hide (show HM V.data.toList (2 * M) ∧ 2 * M * 2 ^ (i - 1) ≤ 16 from by
                  refine ⟨by rw [← eV, data_app]; exact (unhide hYM).1.twice, ?_⟩
                  have h1 := (unhide hYM).2
                  obtain ⟨i', rfl⟩ : ∃ i', i = i' + 1 := ⟨i - 1, by omega⟩
                  rw [Nat.pow_succ] at h1
                  rw [Nat.add_sub_cancel]
                  rw [show 2 * M * 2 ^ i' = M * (2 ^ i' * 2) by rw [Nat.mul_comm (2 ^ i') 2, ← Nat.mul_assoc, Nat.mul_comm M 2]]
                  exact h1)
                have hmm : IntKind.i64.wrap ((i : Int) - 1) = ((i - 1 : Nat) : Int) := by rw [IntKind.wrap_i64]; omega
                clear eV hYM
                go_wp2
                go_roundw
                case rel => exact ⟨V, i - 1, 2 * M, rfl, by first | rfl | (congr 1; omega), by omega, hVM, DC⟩
                case measure => simp [intOf]; omega
              · obtain rfl : i = 0 := by omega
                have hfin := hide (show ∃ X' : ByteArray, Ending.returned (.string Y) = .returned (.string X') ∧ TxOk X'.data.toList ∧ Below W.heap.size W wr from ⟨Y, rfl, (unhide hYM).1.ok (by have := (unhide hYM).2; simpa using this), below_grown (unhide hBW) (unhide DC).gr hBg⟩)
                clear hYM DC
                go_wp2
                go_ret
                exact unhide hfin
        · obtain ⟨A1, eA1⟩ : ∃ C : ByteArray, X.extract 0 k = C := ⟨_, rfl⟩
          obtain ⟨A2, eA2⟩ : ∃ C : ByteArray, X.extract (k + 1) X.size = C := ⟨_, rfl⟩
          have hA1 := hide (show A1.size ≤ 700 ∧ A1.data.toList = X.data.toList.take k from by
            have e : A1.data.toList = X.data.toList.take k := by rw [← eA1, Ln.ext_str rfl (Nat.zero_le _)]; simp
            refine ⟨?_, e⟩
            rw [Lib.size_eq, e, List.length_take, ← Lib.size_eq]
            have := unhide hX7; omega)
          have hA2 := hide (show A2.size ≤ 700 ∧ A2.data.toList = X.data.toList.drop (k + 1) from by
            have e : A2.data.toList = X.data.toList.drop (k + 1) := by rw [← eA2]; exact Lib.extract_to_end X (k + 1)
            refine ⟨?_, e⟩
            rw [Lib.size_eq, e, List.length_drop, ← Lib.size_eq]
            have := unhide hX7; omega)
          have sA1 := (unhide hA1).1
          have sA2 := (unhide hA2).1
          have hk7 : (k : Int) + 1 ≤ X.size := by omega
          have hk6 : IntKind.i64.wrap ((k : Int) + 1) = ((k + 1 : Nat) : Int) := by rw [IntKind.wrap_i64]; have := unhide hX7; omega
          go_upto_region 20 with fail
          have DD := hide ((unhide D22).later hBg ((Below.refl w22.heap.size w22).drew))
          have hk4 : (0 : Int) ≤ (k : Int) + 1 := by omega
          clear D22
          refine wp_region_noPanic ?_
          refine Rg.wp_region_m (S := (fun _ => True)) [] (by kernel_rfl) trivial (fun hH0 => ?_)
          refine Rg.wpAnyM_take (i := 0) (oi := { dst := some 132, op := Go.Op.move (Go.Operand.tmp 4), type := 9, pos := _, after := #[], guard := none }) (v := ?_) rfl (by kernel_rfl) (by kernel_rfl) (by kernel_rfl) (by kernel_rfl) (fun _ _ _ h => h) (by kernel_rfl) (Or.inl ⟨by rfl, ?_⟩) hH0 ?_
          rotate_left
          · (intro w hSw; go_simp <;> with_reducible rfl)
          (try simp only [Act.put, List.setIfInBounds_toArray, List.set_cons_zero, List.set_cons_succ])
          refine Rg.wpAnyM_take (i := 1) (oi := { dst := some 133, op := Go.Op.move (Go.Operand.tmp 11), type := 2, pos := _, after := #[], guard := none }) (v := ?_) rfl (by kernel_rfl) (by kernel_rfl) (by kernel_rfl) (by kernel_rfl) (fun _ _ _ h => h) (by kernel_rfl) (Or.inl ⟨by rfl, ?_⟩) hH0 ?_
          rotate_left
          · (intro w hSw; go_simp <;> with_reducible rfl)
          (try simp only [Act.put, List.setIfInBounds_toArray, List.set_cons_zero, List.set_cons_succ])
          refine Rg.wpAnyM_take (i := 2) (oi := { dst := some 134, op := Go.Op.slice 9 (Go.Operand.tmp 132) none (some (Go.Operand.tmp 133)) none, type := 9, pos := _, after := #[{ on := 0, ground := Go.Ground.data }, { on := 1, ground := Go.Ground.data }], guard := none }) (v := ?_) rfl (by kernel_rfl) (by kernel_rfl) (by kernel_rfl) (by kernel_rfl) (fun _ _ _ h => h) (by kernel_rfl) (Or.inl ⟨by rfl, ?_⟩) hH0 ?_
          rotate_left
          · (intro w hSw; go_simp <;> with_reducible rfl)
          (try simp only [Act.put, List.setIfInBounds_toArray, List.set_cons_zero, List.set_cons_succ])
          refine Rg.wpAnyM_take (i := 3) (oi := { dst := some 135, op := Go.Op.move (Go.Operand.tmp 3), type := 55, pos := _, after := #[], guard := none }) (v := ?_) rfl (by kernel_rfl) (by kernel_rfl) (by kernel_rfl) (by kernel_rfl) (fun _ _ _ h => h) (by kernel_rfl) (Or.inl ⟨by rfl, ?_⟩) hH0 ?_
          rotate_left
          · (intro w hSw; go_simp <;> with_reducible rfl)
          (try simp only [Act.put, List.setIfInBounds_toArray, List.set_cons_zero, List.set_cons_succ])
          refine Rg.wpAnyM_take (i := 9) (oi := { dst := some 141, op := Go.Op.move (Go.Operand.tmp 4), type := 9, pos := _, after := #[], guard := none }) (v := ?_) rfl (by kernel_rfl) (by kernel_rfl) (by kernel_rfl) (by kernel_rfl) (fun _ _ _ h => h) (by kernel_rfl) (Or.inl ⟨by rfl, ?_⟩) hH0 ?_
          rotate_left
          · (intro w hSw; go_simp <;> with_reducible rfl)
          (try simp only [Act.put, List.setIfInBounds_toArray, List.set_cons_zero, List.set_cons_succ])
          refine Rg.wpAnyM_take (i := 10) (oi := { dst := some 142, op := Go.Op.move (Go.Operand.tmp 11), type := 2, pos := _, after := #[], guard := none }) (v := ?_) rfl (by kernel_rfl) (by kernel_rfl) (by kernel_rfl) (by kernel_rfl) (fun _ _ _ h => h) (by kernel_rfl) (Or.inl ⟨by rfl, ?_⟩) hH0 ?_
          rotate_left
          · (intro w hSw; go_simp <;> with_reducible rfl)
          (try simp only [Act.put, List.setIfInBounds_toArray, List.set_cons_zero, List.set_cons_succ])
          refine Rg.wpAnyM_take (i := 11) (oi := { dst := some 143, op := Go.Op.binOp Go.BinOp.add 2 (Go.Operand.tmp 142) (Go.Operand.const (Go.Value.int Go.IntKind.i64 1)) 2, type := 2, pos := _, after := #[{ on := 10, ground := Go.Ground.data }], guard := none }) (v := ?_) rfl (by kernel_rfl) (by kernel_rfl) (by kernel_rfl) (by kernel_rfl) (fun _ _ _ h => h) (by kernel_rfl) (Or.inl ⟨by rfl, ?_⟩) hH0 ?_
          rotate_left
          · (intro w hSw; go_simp <;> with_reducible rfl)
          (try simp only [Act.put, List.setIfInBounds_toArray, List.set_cons_zero, List.set_cons_succ])
          refine Rg.wpAnyM_take (i := 12) (oi := { dst := some 144, op := Go.Op.slice 9 (Go.Operand.tmp 141) (some (Go.Operand.tmp 143)) none none, type := 9, pos := _, after := #[{ on := 9, ground := Go.Ground.data }, { on := 11, ground := Go.Ground.data }], guard := none }) (v := ?_) rfl (by kernel_rfl) (by kernel_rfl) (by kernel_rfl) (by kernel_rfl) (fun _ _ _ h => h) (by kernel_rfl) (Or.inl ⟨by rfl, ?_⟩) hH0 ?_
          rotate_left
          · (intro w hSw; go_simp <;> with_reducible rfl)
          (try simp only [Act.put, List.setIfInBounds_toArray, List.set_cons_zero, List.set_cons_succ])
          refine Rg.wpAnyM_ready (rs := [4]) (by kernel_rfl) (by simp) ?_
          refine Rg.AllReadyM.cons (o := { dst := some 136, op := Go.Op.call { callee := Go.Callee.value (Go.Operand.func 26), args := #[Go.Operand.tmp 135], argTypes := #[55] }, type := 2, pos := _, after := #[{ on := 3, ground := Go.Ground.data }], guard := none }) rfl (fun K hK => ?_) Rg.AllReadyM.nil
          go_simp
          go_at_call 26
          refine (byte_any W.heap.size g a len cap _ hBg hlen (unhide DD).cur (unhide DD).rd).mono ?_
          rintro e wE ⟨by9, rfl, by0, by1, k1, g1⟩
          have DE := hide ((unhide DD).step hBg k1 g1)
          clear k1 g1 DD
          go_wp2_with fail
          refine hK.out _ _ ?_ (fun hH1 => ?_)
          · trivial
          clear hK K
          (try simp only [Act.put, List.setIfInBounds_toArray, List.set_cons_zero, List.set_cons_succ])
          obtain ⟨bn, rfl⟩ := Int.eq_ofNat_of_zero_le by0
          have hw8 : IntKind.u8.wrap (bn : Int) = bn := by rw [IntKind.wrap_u8]; omega
          have hcv : ∀ w : World, (convert 22 9 (.slice (some ⟨w.heap.size, 0, none⟩) 1 1)).run Tryz.prog (w.alloc (.cells #[.int .u8 bn] 5)) = .ok (.string ⟨#[UInt8.ofNat bn]⟩) (w.alloc (.cells #[.int .u8 bn] 5)) := fun w => conv_byte bn (by omega) w
          obtain ⟨T1, eT1⟩ : ∃ C : ByteArray, A1 ++ ⟨#[UInt8.ofNat bn]⟩ = C := ⟨_, rfl⟩
          obtain ⟨T2, eT2⟩ : ∃ C : ByteArray, T1 ++ A2 = C := ⟨_, rfl⟩
          have sT1 : T1.size ≤ 1000 := by rw [← eT1, size_app]; have : (⟨#[UInt8.ofNat bn]⟩ : ByteArray).size = 1 := rfl; omega
          have PT1 := fun w => add_run eT1 (by have : (⟨#[UInt8.ofNat bn]⟩ : ByteArray).size = 1 := rfl; omega) w
          have PT2 := fun w => add_run eT2 (by omega) w
          have hY2 := hide (show HM T2.data.toList 1 from by
            rw [← eT2, ← eT1, data_app, data_app, (unhide hA1).2, (unhide hA2).2]
            exact (unhide hX).1.put (by have := unhide hX7; rw [← Lib.size_eq]; omega) (by rw [← Lib.size_eq]; omega) _)
          refine Rg.wpAnyM_ready (rs := [5]) (by kernel_rfl) (by simp) ?_
          refine Rg.AllReadyM.cons (o := { dst := some 137, op := Go.Op.convert 2 5 (Go.Operand.tmp 136), type := 5, pos := _, after := #[{ on := 4, ground := Go.Ground.data }], guard := none }) rfl (fun K hK => ?_) Rg.AllReadyM.nil
          go_simp
          refine hK.out _ _ ?_ (fun hH2 => ?_)
          · trivial
          clear hK K
          (try simp only [Act.put, List.setIfInBounds_toArray, List.set_cons_zero, List.set_cons_succ])
          refine Rg.wpAnyM_ready (rs := [6]) (by kernel_rfl) (by simp) ?_
          refine Rg.AllReadyM.cons (o := { dst := some 138, op := Go.Op.buildSlice 22 1 #[(0, Go.Operand.tmp 137)], type := 22, pos := _, after := #[{ on := 5, ground := Go.Ground.data }], guard := none }) rfl (fun K hK => ?_) Rg.AllReadyM.nil
          go_simp
          have DF := hide ((unhide DE).later hBg ((Below.refl wE.heap.size wE).alloc (Nat.le_refl _) (.cells #[.int .u8 bn] 5)))
          refine hK.out _ _ ?_ (fun hH3 => ?_)
          · trivial
          clear hK K DE
          (try simp only [Act.put, List.setIfInBounds_toArray, List.set_cons_zero, List.set_cons_succ])
          refine Rg.wpAnyM_ready (rs := [7]) (by kernel_rfl) (by simp) ?_
          refine Rg.AllReadyM.cons (o := { dst := some 139, op := Go.Op.convert 22 9 (Go.Operand.tmp 138), type := 9, pos := _, after := #[{ on := 6, ground := Go.Ground.data }], guard := none }) rfl (fun K hK => ?_) Rg.AllReadyM.nil
          go_simp
          refine hK.out _ _ ?_ (fun hH7 => ?_)
          · trivial
          clear hK K
          (try simp only [Act.put, List.setIfInBounds_toArray, List.set_cons_zero, List.set_cons_succ])
          refine Rg.wpAnyM_ready (rs := [8]) (by kernel_rfl) (by simp) ?_
          refine Rg.AllReadyM.cons (o := { dst := some 140, op := Go.Op.binOp Go.BinOp.add 9 (Go.Operand.tmp 134) (Go.Operand.tmp 139) 9, type := 9, pos := _, after := #[{ on := 2, ground := Go.Ground.data }, { on := 7, ground := Go.Ground.data }], guard := none }) rfl (fun K hK => ?_) Rg.AllReadyM.nil
          go_simp
          refine hK.out _ _ ?_ (fun hH8 => ?_)
          · trivial
          clear hK K
          (try simp only [Act.put, List.setIfInBounds_toArray, List.set_cons_zero, List.set_cons_succ])
          refine Rg.wpAnyM_ready (rs := [13]) (by kernel_rfl) (by simp) ?_
          refine Rg.AllReadyM.cons (o := { dst := some 145, op := Go.Op.binOp Go.BinOp.add 9 (Go.Operand.tmp 140) (Go.Operand.tmp 144) 9, type := 9, pos := _, after := #[{ on := 8, ground := Go.Ground.data }, { on := 12, ground := Go.Ground.data }], guard := none }) rfl (fun K hK => ?_) Rg.AllReadyM.nil
          go_simp
          refine hK.out _ _ ?_ (fun hH13 => ?_)
          · trivial
          clear hK K
          (try simp only [Act.put, List.setIfInBounds_toArray, List.set_cons_zero, List.set_cons_succ])
          refine Rg.wpAnyM_ready (rs := [14]) (by kernel_rfl) (by simp) ?_
          refine Rg.AllReadyM.cons (o := { dst := some 4, op := Go.Op.assign (Go.Operand.tmp 145), type := 9, pos := _, after := #[{ on := 13, ground := Go.Ground.data }, { on := 4, ground := Go.Ground.chain }, { on := 0, ground := Go.Ground.phase }, { on := 1, ground := Go.Ground.phase }, { on := 2, ground := Go.Ground.phase }, { on := 3, ground := Go.Ground.phase }, { on := 4, ground := Go.Ground.phase }, { on := 5, ground := Go.Ground.phase }, { on := 6, ground := Go.Ground.phase }, { on := 7, ground := Go.Ground.phase }, { on := 8, ground := Go.Ground.phase }, { on := 9, ground := Go.Ground.phase }, { on := 10, ground := Go.Ground.phase }, { on := 11, ground := Go.Ground.phase }, { on := 12, ground := Go.Ground.phase }, { on := 13, ground := Go.Ground.phase }], guard := none }) rfl (fun K hK => ?_) Rg.AllReadyM.nil
          go_simp
          refine hK.out _ _ ?_ (fun hH14 => ?_)
          · trivial
          clear hK K
          (try simp only [Act.put, List.setIfInBounds_toArray, List.set_cons_zero, List.set_cons_succ])
          refine Rg.wpAnyM_done (by kernel_rfl) ?_ _
          refine NoPanic.normal ?_
          have D0 := DF
          have hY0 := hY2
          clear DF hY2 eT1 eT2 PT1 PT2
          generalize T2 = Y0 at *
          go_wp2_with fail
          refine (once_any W.heap.size g a len cap 60 _ hBg hlen (unhide D0).cur (unhide D0).rd (by omega)).mono ?_
          rintro e wA ⟨vc, rfl, k1, g1⟩
          have DA := hide ((unhide D0).step hBg k1 g1)
          clear k1 g1 D0
          cases vc with
          | false =>
            have hfin := hide (show ∃ X' : ByteArray, Ending.returned (.string Y0) = .returned (.string X') ∧ TxOk X'.data.toList ∧ Below W.heap.size W wA from ⟨Y0, rfl, (unhide hY0).ok (by omega), below_grown (unhide hBW) (unhide DA).gr hBg⟩)
            go_wp2
            go_ret
            exact unhide hfin
          | true =>
            go_wp2_with fail
            refine (below_any W.heap.size g a len cap 5 _ hBg hlen (unhide DA).cur (unhide DA).rd (by omega)).mono ?_
            rintro e wB ⟨y, rfl, y0, y1, k1, g1⟩
            obtain ⟨N, rfl⟩ := Int.eq_ofNat_of_zero_le y0
            have DB := hide ((unhide DA).step hBg k1 g1)
            have hN4 : N ≤ 4 := by omega
            have hpw : 1 * 2 ^ N ≤ 16 := by
              have hc : N = 0 ∨ N = 1 ∨ N = 2 ∨ N = 3 ∨ N = 4 := by omega
              rcases hc with rfl | rfl | rfl | rfl | rfl <;> decide
            have hpw' := hide hpw
            clear k1 g1 DA y0 y1 hpw
            go_wp2
            go_loopw [4, 12] (fun s t wr => ∃ (Y : ByteArray) (i M : Nat), s = .string Y ∧ t = .int .i64 i ∧ i ≤ 4 ∧ Hid (HM Y.data.toList M ∧ M * 2 ^ i ≤ 16) ∧ Hid (DS w1 W.heap.size g a len cap wr)) (fun _ t _ => (intOf t).toNat)
            case atStart => exact ⟨Y0, N, 1, rfl, rfl, hN4, hide ⟨unhide hY0, unhide hpw'⟩, DB⟩
            case round =>
              clear DB hpw' hY0
              obtain ⟨Y, i, M, rfl, rfl, hi4, hYM, DC⟩ := hrel
              by_cases hip : 0 < i
              · have q1 : decide ((0 : Int) < i) = true := by simp; omega
                have hip' : (0 : Int) < i := by omega
                have hMp : M ≤ 16 := by have h1 := (unhide hYM).2; have h2 : 1 ≤ 2 ^ i := Nat.one_le_two_pow; exact Nat.le_trans (Nat.le_mul_of_pos_right M h2) h1
                obtain ⟨V, eV⟩ : ∃ C : ByteArray, Y ++ Y = C := ⟨_, rfl⟩
                have hYs : Y.size ≤ 20000 := by have := ((unhide hYM).1.ok hMp).1; rw [Lib.size_eq]; exact this
                have PV := fun w => add_run eV (by omega) w
                have hVM := hide (show HM V.data.toList (2 * M) ∧ 2 * M * 2 ^ (i - 1) ≤ 16 from by
                  refine ⟨by rw [← eV, data_app]; exact (unhide hYM).1.twice, ?_⟩
                  have h1 := (unhide hYM).2
                  obtain ⟨i', rfl⟩ : ∃ i', i = i' + 1 := ⟨i - 1, by omega⟩
                  rw [Nat.pow_succ] at h1
                  rw [Nat.add_sub_cancel]
                  rw [show 2 * M * 2 ^ i' = M * (2 ^ i' * 2) by rw [Nat.mul_comm (2 ^ i') 2, ← Nat.mul_assoc, Nat.mul_comm M 2]]
                  exact h1)
                have hmm : IntKind.i64.wrap ((i : Int) - 1) = ((i - 1 : Nat) : Int) := by rw [IntKind.wrap_i64]; omega
                clear eV hYM
                go_wp2
                go_roundw
                case rel => exact ⟨V, i - 1, 2 * M, rfl, by first | rfl | (congr 1; omega), by omega, hVM, DC⟩
                case measure => simp [intOf]; omega
              · obtain rfl : i = 0 := by omega
                have hfin := hide (show ∃ X' : ByteArray, Ending.returned (.string Y) = .returned (.string X') ∧ TxOk X'.data.toList ∧ Below W.heap.size W wr from ⟨Y, rfl, (unhide hYM).1.ok (by have := (unhide hYM).2; simpa using this), below_grown (unhide hBW) (unhide DC).gr hBg⟩)
                clear hYM DC
                go_wp2
                go_ret
                exact unhide hfin
        · obtain ⟨A1, eA1⟩ : ∃ C : ByteArray, X.extract 0 (X.size - 1) = C := ⟨_, rfl⟩
          have hY0 := hide (show HM A1.data.toList 1 from by
            rw [← eA1, Ln.ext_str rfl (Nat.zero_le _)]
            have := (unhide hX).1.cut (by rw [← Lib.size_eq]; have := unhide hX7; omega) (X.size - 1)
            simpa using this)
          have hk6 : IntKind.i64.wrap ((X.size : Int) - 1) = ((X.size - 1 : Nat) : Int) := by rw [IntKind.wrap_i64]; have := unhide hX7; omega
          have hk5 : ((X.size - 1 : Nat) : Int) ≤ X.size := by omega
          have D0 := D22
          clear D22 hX
          go_upto_region 23 with fail
          generalize A1 = Y0 at *
          go_wp2_with fail
          refine (once_any W.heap.size g a len cap 60 _ hBg hlen (unhide D0).cur (unhide D0).rd (by omega)).mono ?_
          rintro e wA ⟨vc, rfl, k1, g1⟩
          have DA := hide ((unhide D0).step hBg k1 g1)
          clear k1 g1 D0
          cases vc with
          | false =>
            have hfin := hide (show ∃ X' : ByteArray, Ending.returned (.string Y0) = .returned (.string X') ∧ TxOk X'.data.toList ∧ Below W.heap.size W wA from ⟨Y0, rfl, (unhide hY0).ok (by omega), below_grown (unhide hBW) (unhide DA).gr hBg⟩)
            go_wp2
            go_ret
            exact unhide hfin
          | true =>
            go_wp2_with fail
            refine (below_any W.heap.size g a len cap 5 _ hBg hlen (unhide DA).cur (unhide DA).rd (by omega)).mono ?_
            rintro e wB ⟨y, rfl, y0, y1, k1, g1⟩
            obtain ⟨N, rfl⟩ := Int.eq_ofNat_of_zero_le y0
            have DB := hide ((unhide DA).step hBg k1 g1)
            have hN4 : N ≤ 4 := by omega
            have hpw : 1 * 2 ^ N ≤ 16 := by
              have hc : N = 0 ∨ N = 1 ∨ N = 2 ∨ N = 3 ∨ N = 4 := by omega
              rcases hc with rfl | rfl | rfl | rfl | rfl <;> decide
            have hpw' := hide hpw
            clear k1 g1 DA y0 y1 hpw
            go_wp2
            go_loopw [4, 12] (fun s t wr => ∃ (Y : ByteArray) (i M : Nat), s = .string Y ∧ t = .int .i64 i ∧ i ≤ 4 ∧ Hid (HM Y.data.toList M ∧ M * 2 ^ i ≤ 16) ∧ Hid (DS w1 W.heap.size g a len cap wr)) (fun _ t _ => (intOf t).toNat)
            case atStart => exact ⟨Y0, N, 1, rfl, rfl, hN4, hide ⟨unhide hY0, unhide hpw'⟩, DB⟩
            case round =>
              clear DB hpw' hY0
              obtain ⟨Y, i, M, rfl, rfl, hi4, hYM, DC⟩ := hrel
              by_cases hip : 0 < i
              · have q1 : decide ((0 : Int) < i) = true := by simp; omega
                have hip' : (0 : Int) < i := by omega
                have hMp : M ≤ 16 := by have h1 := (unhide hYM).2; have h2 : 1 ≤ 2 ^ i := Nat.one_le_two_pow; exact Nat.le_trans (Nat.le_mul_of_pos_right M h2) h1
                obtain ⟨V, eV⟩ : ∃ C : ByteArray, Y ++ Y = C := ⟨_, rfl⟩
                have hYs : Y.size ≤ 20000 := by have := ((unhide hYM).1.ok hMp).1; rw [Lib.size_eq]; exact this
                have PV := fun w => add_run eV (by omega) w
                have hVM := hide (show HM V.data.toList (2 * M) ∧ 2 * M * 2 ^ (i - 1) ≤ 16 from by
                  refine ⟨by rw [← eV, data_app]; exact (unhide hYM).1.twice, ?_⟩
                  have h1 := (unhide hYM).2
                  obtain ⟨i', rfl⟩ : ∃ i', i = i' + 1 := ⟨i - 1, by omega⟩
                  rw [Nat.pow_succ] at h1
                  rw [Nat.add_sub_cancel]
                  rw [show 2 * M * 2 ^ i' = M * (2 ^ i' * 2) by rw [Nat.mul_comm (2 ^ i') 2, ← Nat.mul_assoc, Nat.mul_comm M 2]]
                  exact h1)
                have hmm : IntKind.i64.wrap ((i : Int) - 1) = ((i - 1 : Nat) : Int) := by rw [IntKind.wrap_i64]; omega
                clear eV hYM
                go_wp2
                go_roundw
                case rel => exact ⟨V, i - 1, 2 * M, rfl, by first | rfl | (congr 1; omega), by omega, hVM, DC⟩
                case measure => simp [intOf]; omega
              · obtain rfl : i = 0 := by omega
                have hfin := hide (show ∃ X' : ByteArray, Ending.returned (.string Y) = .returned (.string X') ∧ TxOk X'.data.toList ∧ Below W.heap.size W wr from ⟨Y, rfl, (unhide hYM).1.ok (by have := (unhide hYM).2; simpa using this), below_grown (unhide hBW) (unhide DC).gr hBg⟩)
                clear hYM DC
                go_wp2
                go_ret
                exact unhide hfin
end Go.Proofs.YtioaehjppiodfaaGreatDoor
