/-
  The bench, plain: its answers line by line, what comes later changes none, undo takes all back.
  FnTop, plain: what the bench answers to its eighteen lines.
-/
import Derived.Test.YtioaehjppiodfaaGreatDoorGBnK
namespace Go.Proofs.YtioaehjppiodfaaGreatDoor
open Go.RowKit
set_option linter.unusedVariables false
set_option linter.unusedSimpArgs false

/-- lines, each with its end -/
def flat (xs : List (List UInt8)) : List UInt8 := xs.flatMap (· ++ [10])
theorem flat_cons (x : List UInt8) (xs : List (List UInt8)) : flat (x :: xs) = x ++ 10 :: flat xs := by simp [flat]
theorem flat_append (xs ys : List (List UInt8)) : flat (xs ++ ys) = flat xs ++ flat ys := by simp [flat]
theorem rawL_flat {xs : List (List UInt8)} (h : ∀ x ∈ xs, (10 : UInt8) ∉ x) : Ln.rawL (flat xs) = xs.map (· ++ [10]) := by
  induction xs with
  | nil => rfl
  | cons x xs ih =>
    rw [flat_cons, Ln.rawL_pre (h x (by simp)), ih (fun y hy => h y (by simp [hy]))]
    rfl
theorem strip_nl (x : List UInt8) : strip (x ++ [10]) = x := by
  unfold strip Lib.trimSuffix Lib.hasSuffix
  simp
theorem strip_no {x : List UInt8} (h : (10 : UInt8) ∉ x) : strip x = x := by
  unfold strip Lib.trimSuffix
  split
  · rename_i hs
    exfalso
    unfold Lib.hasSuffix at hs
    simp at hs
    obtain ⟨y, rfl⟩ := hs
    simp at h
  · rfl
theorem stC_run {x : List UInt8} (h : (10 : UInt8) ∉ x) : ∀ o, x.foldl stC o = (o.1, o.2 ++ x) := by
  induction x with
  | nil => intro o; simp
  | cons b x ih =>
    intro o
    have hb : b ≠ 10 := fun e => h (by simp [e])
    rw [List.foldl_cons, ih (fun e => h (by simp [e]))]
    unfold stC
    rw [if_neg hb]
    simp
theorem linesC_flat {xs : List (List UInt8)} (h : ∀ x ∈ xs, (10 : UInt8) ∉ x) : linesC (flat xs) = xs := by
  have : ∀ (xs : List (List UInt8)) (o : List (List UInt8)), (∀ x ∈ xs, (10 : UInt8) ∉ x) → (flat xs).foldl stC (o, []) = (o ++ xs, []) := by
    intro xs
    induction xs with
    | nil => intro o _; simp [flat]
    | cons x xs ih =>
      intro o h
      rw [flat_cons, List.foldl_append, stC_run (h x (by simp)), List.foldl_cons, show stC (o, [] ++ x) 10 = (o ++ [[] ++ x], []) from rfl, ih _ (fun y hy => h y (by simp [hy]))]
      simp
  unfold linesC fdC
  rw [this xs [] h]
  simp
theorem dec_no10 : ∀ (n : Nat), (10 : UInt8) ∉ Lib.decDigits n := by
  intro n
  rw [dec_dig (n + 1) n (Nat.lt_succ_self _)]
  have : ∀ (f n : Nat), (10 : UInt8) ∉ Pl.decF f n := by
    intro f
    induction f with
    | zero => intro n; simp [Pl.decF]
    | succ f ih =>
      intro n
      have hd : (10 : UInt8) ≠ Pl.dg n := by
        intro e
        have : (10 : UInt8).toNat = (Pl.dg n).toNat := by rw [← e]
        rw [Pl.dg_toNat] at this
        have h10 : (10 : UInt8).toNat = 10 := rfl
        omega
      unfold Pl.decF
      split
      · simpa using hd
      · simp only [List.mem_append, List.mem_singleton, not_or]
        exact ⟨ih _, hd⟩
  exact this _ _
theorem itoa_no10 (n : Int) : (10 : UInt8) ∉ Lib.itoa n := by
  unfold Lib.itoa
  split
  · simp only [List.mem_cons, not_or]
    exact ⟨by decide, dec_no10 _⟩
  · exact dec_no10 _
theorem join_no10 {xs : List (List UInt8)} (h : ∀ x ∈ xs, (10 : UInt8) ∉ x) : (10 : UInt8) ∉ Lib.join xs [32] := by
  induction xs with
  | nil => simp [Lib.join]
  | cons x xs ih =>
    cases xs with
    | nil => simpa [Lib.join] using h x (by simp)
    | cons y ys =>
      have h1 := ih (fun z hz => h z (by simp [hz]))
      have h2 := h x (by simp)
      have e : Lib.join (x :: y :: ys) [32] = x ++ [32] ++ Lib.join (y :: ys) [32] := by simp [Lib.join]
      rw [e]
      simp only [List.mem_append, not_or]
      exact ⟨⟨h2, by decide⟩, h1⟩
theorem atL_no10 (A : An) : (10 : UInt8) ∉ atL A := by
  unfold atL
  refine join_no10 ?_
  cases A with
  | err n =>
    intro x hx
    simp [awords] at hx
    rcases hx with rfl | rfl
    · decide
    · exact itoa_no10 n
  | nums L =>
    intro x hx
    rcases List.mem_cons.1 hx with rfl | hx
    · decide
    · obtain ⟨y, hy, rfl⟩ := List.mem_map.1 hx
      exact itoa_no10 y
  | clips l =>
    intro x hx
    rcases List.mem_cons.1 hx with rfl | hx
    · decide
    · obtain ⟨y, hy, rfl⟩ := List.mem_map.1 hx
      unfold ctL
      simp only [List.mem_append, not_or]
      exact ⟨⟨⟨⟨itoa_no10 _, by decide⟩, itoa_no10 _⟩, by decide⟩, itoa_no10 _⟩

/-- the answers of lines, and what the bench is behind them -/
noncomputable def runS : List (List UInt8) → Bch → List (List UInt8) × Bch
  | [], s => ([], s)
  | x :: xs, s => if x = [] then runS xs s else (atL (lineS x s).1 :: (runS xs (lineS x s).2).1, (runS xs (lineS x s).2).2)
theorem runS_cons {x : List UInt8} (hx : x ≠ []) (xs : List (List UInt8)) (s : Bch) : runS (x :: xs) s = (atL (lineS x s).1 :: (runS xs (lineS x s).2).1, (runS xs (lineS x s).2).2) := by
  rw [runS, if_neg hx]
theorem fold_run : ∀ (T : List (List UInt8)) (o : List UInt8) (s : Bch), T.foldl stepB (o, s) = (o ++ flat (runS (T.map strip) s).1, (runS (T.map strip) s).2) := by
  intro T
  induction T with
  | nil => intro o s; simp [runS, flat]
  | cons x T ih =>
    intro o s
    rw [List.foldl_cons, List.map_cons]
    by_cases hx : strip x = []
    · rw [show stepB (o, s) x = (o, s) from if_pos hx, ih, runS, if_pos hx]
    · rw [show stepB (o, s) x = (o ++ (atL (lineS (strip x) s).1 ++ [10]), (lineS (strip x) s).2) from if_neg hx, ih, runS_cons hx]
      dsimp only
      rw [flat_cons]
      simp
theorem run_no10 : ∀ (T : List (List UInt8)) (s : Bch), ∀ x ∈ (runS T s).1, (10 : UInt8) ∉ x := by
  intro T
  induction T with
  | nil => intro s x hx; simp [runS] at hx
  | cons y T ih =>
    intro s x hx
    by_cases hy : y = []
    · rw [runS, if_pos hy] at hx; exact ih s x hx
    · rw [runS_cons hy] at hx
      rcases List.mem_cons.1 hx with rfl | hx
      · exact atL_no10 _
      · exact ih _ x hx
/-- the lines of a text -/
def lnL (t : List UInt8) : List (List UInt8) := (Ln.rawL t).map strip
theorem benchL_eq {t : List UInt8} (h1 : t.length ≤ 20000) (h2 : (lnL t).length ≤ 200) : benchL t = flat (runS (lnL t) ([], [])).1 := by
  unfold lnL at h2
  rw [List.length_map] at h2
  unfold benchL
  rw [if_neg (by omega), if_neg (by omega)]
  unfold foldB
  rw [fold_run]
  rfl
theorem bench_lines {t : List UInt8} (h1 : t.length ≤ 20000) (h2 : (lnL t).length ≤ 200) : linesC (benchL t) = (runS (lnL t) ([], [])).1 := by
  rw [benchL_eq h1 h2]
  exact linesC_flat (run_no10 _ _)
theorem lnL_flat {xs : List (List UInt8)} (h : ∀ x ∈ xs, (10 : UInt8) ∉ x) : lnL (flat xs) = xs := by
  unfold lnL
  rw [rawL_flat h, List.map_map]
  conv => rhs; rw [← List.map_id xs]
  apply List.map_congr_left
  intro x _
  exact strip_nl x
theorem run_append : ∀ (xs ys : List (List UInt8)) (s : Bch), runS (xs ++ ys) s = ((runS xs s).1 ++ (runS ys (runS xs s).2).1, (runS ys (runS xs s).2).2) := by
  intro xs
  induction xs with
  | nil => intro ys s; simp [runS]
  | cons x xs ih =>
    intro ys s
    by_cases hx : x = []
    · rw [List.cons_append, runS, if_pos hx, ih, runS, if_pos hx]
    · rw [List.cons_append, runS_cons hx, ih, runS_cons hx]
      simp
theorem run_len : ∀ (xs : List (List UInt8)) (s : Bch), (runS xs s).1.length = (xs.filter (· ≠ [])).length := by
  intro xs
  induction xs with
  | nil => intro s; rfl
  | cons x xs ih =>
    intro s
    by_cases hx : x = []
    · rw [runS, if_pos hx, ih]; simp [hx]
    · rw [runS_cons hx]; simp [hx, ih]
end Go.Proofs.YtioaehjppiodfaaGreatDoor

namespace Go.Proofs.YtioaehjppiodfaaGreatDoor
open Go.RowKit
set_option linter.unusedVariables false
set_option linter.unusedSimpArgs false

theorem words_pre {p r : List UInt8} (h : (32 : UInt8) ∉ p) : wordsL (p ++ 32 :: r) = p :: wordsL r := by
  induction p with
  | nil => rfl
  | cons b p ih =>
    rw [List.cons_append, wordsL_char (fun e => h (by simp [e])), ih (fun e => h (by simp [e]))]
    rfl
theorem words_one {p : List UInt8} (h : (32 : UInt8) ∉ p) : wordsL p = [p] := by
  induction p with
  | nil => rfl
  | cons b p ih =>
    rw [wordsL_char (fun e => h (by simp [e])), ih (fun e => h (by simp [e]))]
    rfl
theorem num_fact : ∀ n : Nat, n < 1000 → numOf (bsL (Pl.dec n)) = some (n : Int) ∧ (32 : UInt8) ∉ Pl.dec n ∧ (10 : UInt8) ∉ Pl.dec n ∧ Pl.dec n ≠ [] := by decide +kernel
/-- a number below a thousand as a word -/
theorem num_of {n : Int} (h0 : 0 ≤ n) (h1 : n < 1000) : numOf (bsL (Lib.itoa n)) = some n ∧ (32 : UInt8) ∉ Lib.itoa n ∧ Lib.itoa n ≠ [] := by
  obtain ⟨m, rfl⟩ := Int.eq_ofNat_of_zero_le h0
  rw [itoa_dec h0]
  have := num_fact m (by omega)
  exact ⟨this.1, this.2.1, this.2.2.2⟩
/-- a line of a word and numbers -/
theorem line_of {i : Nat} (hi : i < 13) (L : List Int) (hL : ∀ x ∈ L, 0 ≤ x ∧ x < 1000) (s : Bch) : lineS (Lib.join (keyL i :: L.map Lib.itoa) [32]) s = tellS i L s := by
  have hk : ∀ i, i < 13 → (32 : UInt8) ∉ keyL i := by decide
  have hc : ∀ i, i < 13 → codeOf (keyL i) = some i := by decide
  have hw : wordsL (Lib.join (keyL i :: L.map Lib.itoa) [32]) = keyL i :: L.map Lib.itoa := by
    have : ∀ (ws : List (List UInt8)) (p : List UInt8), (32 : UInt8) ∉ p → (∀ x ∈ ws, (32 : UInt8) ∉ x) → wordsL (Lib.join (p :: ws) [32]) = p :: ws := by
      intro ws
      induction ws with
      | nil => intro p hp _; rw [show Lib.join [p] [32] = p by simp [Lib.join]]; exact words_one hp
      | cons q ws ih =>
        intro p hp hws
        rw [show Lib.join (p :: q :: ws) [32] = p ++ 32 :: Lib.join (q :: ws) [32] by simp [Lib.join], words_pre hp, ih q (hws q (by simp)) (fun x hx => hws x (by simp [hx]))]
    refine this _ _ (hk i hi) (fun x hx => ?_)
    obtain ⟨y, hy, rfl⟩ := List.mem_map.1 hx
    exact (num_of (hL y hy).1 (hL y hy).2).2.1
  rw [lineS_eq hw, hc i hi]
  have hn : numsOf ((L.map Lib.itoa).map bsL) = some L := by
    clear hw
    induction L with
    | nil => rfl
    | cons x L ih =>
      have hx := hL x (by simp)
      have h2 := ih (fun y hy => hL y (by simp [hy]))
      simp only [List.map_cons, numsOf, (num_of hx.1 hx.2).1, h2]
      try rfl
  rw [hn]

theorem cok3 {a n : Int} (ha : 0 ≤ a) (hn : 1 ≤ n) (h : a + n ≤ 10000000) : COk (3, a, n) := ⟨hn, by dsimp only; omega, ha, h, .inl ⟨by dsimp only; omega, by dsimp only; omega⟩⟩
theorem cok7 {a n : Int} (ha : 0 ≤ a) (hn : 1 ≤ n) (h : a + n ≤ 10000000) : COk (7, a, n) := ⟨hn, by dsimp only; omega, ha, h, .inl ⟨by dsimp only; omega, by dsimp only; omega⟩⟩
theorem tok1 {c : Kl} (h : COk c) : TOk [c] := ⟨by simp, aok_one.2 h, by have := h.2.1; simp [clen]; omega⟩
theorem tok3 {p c q : Kl} (h1 : COk p) (h2 : COk c) (h3 : COk q) (h : p.2.2 + c.2.2 + q.2.2 ≤ 10000000) : TOk [p, c, q] :=
  ⟨by simp, AOk.cons h1 (AOk.cons h2 (AOk.cons h3 AOk.nil)), by simp [clen]; omega⟩
theorem join_three {p c q : Kl} (h1 : p.1 ≠ c.1) (h2 : c.1 ≠ q.1) : join [p, c, q] = [p, c, q] := by
  have g1 : ¬ goes p c := fun h => h1 h.1
  have g2 : ¬ goes c q := fun h => h2 h.1
  simp [join, jstep, g1, g2]

structure TopH (a n k : Int) : Prop where
  ha : 10 ≤ a
  ha2 : a < 510
  hn : 4 ≤ n
  hn2 : n < 94
  hk : 1 ≤ k
  hk2 : k ≤ n - 2
theorem ins1_eq {a n k : Int} (H : TopH a n k) : insertS [] 0 (3, a, n) = some [(3, a, n)] := by
  have H0 := H
  obtain ⟨ha, ha2, hn, hn2, hk, hk2⟩ := H0
  have hc := cok3 (a := a) (n := n) (by omega) (by omega) (by omega)
  have ht : TOk [] := ok_nil.1
  unfold insertS
  rw [if_pos ⟨ht, hc, by unfold InR; simp [clen]⟩]
  unfold putS
  rw [show part [] 0 0 ++ [(3, a, n)] ++ part [] 0 10000000 = [(3, a, n)] from rfl, edit_yes (aok_one.2 hc) (show TOk (join [(3, a, n)]) from tok1 hc)]
  rfl
theorem part_lo {a n k : Int} (H : TopH a n k) : part [(3, a, n)] 0 k = [(3, a, k)] := by
  have H0 := H
  obtain ⟨ha, ha2, hn, hn2, hk, hk2⟩ := H0
  unfold part ptOne
  dsimp only
  rw [if_pos (by omega), if_neg (by decide)]
  have e1 : min k n = k := by omega
  rw [e1]
  simp [part]
theorem part_hi {a n k : Int} (H : TopH a n k) : part [(3, a, n)] k 10000000 = [(3, a + k, n - k)] := by
  have H0 := H
  obtain ⟨ha, ha2, hn, hn2, hk, hk2⟩ := H0
  unfold part ptOne
  dsimp only
  rw [if_pos (by omega), if_neg (by decide)]
  have e1 : min 10000000 n = n := by omega
  have e2 : max k 0 = k := by omega
  rw [e1, e2]
  simp [part]
theorem ins2_eq {a n k : Int} (H : TopH a n k) : insertS [(3, a, n)] k (7, 40, 5) = some [(3, a, k), (7, 40, 5), (3, a + k, n - k)] := by
  have H0 := H
  obtain ⟨ha, ha2, hn, hn2, hk, hk2⟩ := H0
  have hc := cok3 (a := a) (n := n) (by omega) (by omega) (by omega)
  have h1 := cok3 (a := a) (n := k) (by omega) (by omega) (by omega)
  have h2 := cok7 (a := 40) (n := 5) (by omega) (by omega) (by omega)
  have h3 := cok3 (a := a + k) (n := n - k) (by omega) (by omega) (by omega)
  unfold insertS
  rw [if_pos ⟨tok1 hc, h2, by unfold InR; simp [clen]; omega⟩]
  unfold putS
  rw [part_lo H, part_hi H]
  have hj := join_three (p := (3, a, k)) (c := (7, 40, 5)) (q := (3, a + k, n - k)) (by dsimp only; omega) (by dsimp only; omega)
  have e := edit_yes (x := [(3, a, k), (7, 40, 5), (3, a + k, n - k)]) (AOk.cons h1 (AOk.cons h2 (AOk.cons h3 AOk.nil))) (by rw [hj]; exact tok3 h1 h2 h3 (by dsimp only; omega))
  rw [hj] at e
  exact e
theorem slip_eqT {a n k : Int} (H : TopH a n k) : slipS [(3, a, k), (7, 40, 5), (3, a + k, n - k)] 1 2 = some [(3, a, k), (7, 42, 5), (3, a + k, n - k)] := by
  have H0 := H
  obtain ⟨ha, ha2, hn, hn2, hk, hk2⟩ := H0
  have h1 := cok3 (a := a) (n := k) (by omega) (by omega) (by omega)
  have h2 := cok7 (a := 40) (n := 5) (by omega) (by omega) (by omega)
  have h2' := cok7 (a := 42) (n := 5) (by omega) (by omega) (by omega)
  have h3 := cok3 (a := a + k) (n := n - k) (by omega) (by omega) (by omega)
  unfold slipS
  rw [if_pos ⟨tok3 h1 h2 h3 (by dsimp only; omega), by unfold InR; omega, by decide, by simp, by simp [ck]⟩]
  have hj := join_three (p := (3, a, k)) (c := (7, 42, 5)) (q := (3, a + k, n - k)) (by dsimp only; omega) (by dsimp only; omega)
  have e := edit_yes (x := [(3, a, k), (7, 42, 5), (3, a + k, n - k)]) (AOk.cons h1 (AOk.cons h2' (AOk.cons h3 AOk.nil))) (by rw [hj]; exact tok3 h1 h2' h3 (by dsimp only; omega))
  rw [hj] at e
  exact e
theorem tokY {a n k : Int} (H : TopH a n k) : TOk [(3, a, k), (7, 40, 5), (3, a + k, n - k)] := by
  have H0 := H
  obtain ⟨ha, ha2, hn, hn2, hk, hk2⟩ := H0
  exact tok3 (cok3 (by omega) (by omega) (by omega)) (cok7 (by omega) (by omega) (by omega)) (cok3 (by omega) (by omega) (by omega)) (by dsimp only; omega)
theorem tokZ {a n k : Int} (H : TopH a n k) : TOk [(3, a, k), (7, 42, 5), (3, a + k, n - k)] := by
  have H0 := H
  obtain ⟨ha, ha2, hn, hn2, hk, hk2⟩ := H0
  exact tok3 (cok3 (by omega) (by omega) (by omega)) (cok7 (by omega) (by omega) (by omega)) (cok3 (by omega) (by omega) (by omega)) (by dsimp only; omega)
theorem tokX {a n k : Int} (H : TopH a n k) : TOk [(3, a, n)] := by
  have H0 := H
  obtain ⟨ha, ha2, hn, hn2, hk, hk2⟩ := H0
  exact tok1 (cok3 (by omega) (by omega) (by omega))
theorem lenX {a n k : Int} (H : TopH a n k) : lenOf [(3, a, n)] = n := by
  have H0 := H
  obtain ⟨ha, ha2, hn, hn2, hk, hk2⟩ := H0
  unfold lenOf
  rw [if_pos (tokX H)]
  simp [clen]
theorem lenY {a n k : Int} (H : TopH a n k) : lenOf [(3, a, k), (7, 40, 5), (3, a + k, n - k)] = n + 5 := by
  have H0 := H
  obtain ⟨ha, ha2, hn, hn2, hk, hk2⟩ := H0
  unfold lenOf
  rw [if_pos (tokY H)]
  simp [clen]
  omega
theorem lenZ {a n k : Int} (H : TopH a n k) : lenOf [(3, a, k), (7, 42, 5), (3, a + k, n - k)] = n + 5 := by
  have H0 := H
  obtain ⟨ha, ha2, hn, hn2, hk, hk2⟩ := H0
  unfold lenOf
  rw [if_pos (tokZ H)]
  simp [clen]
  omega
theorem at4 {a n k : Int} (H : TopH a n k) : frameAt [(3, a, k), (7, 40, 5), (3, a + k, n - k)] (k + 4) = (7, 44) := by
  have H0 := H
  obtain ⟨ha, ha2, hn, hn2, hk, hk2⟩ := H0
  rw [frameAt_yes (tokY H) (by omega)]
  simp only [seen]
  rw [if_neg (by omega), if_pos (by omega), if_neg (by decide), show (40 : Int) + (k + 4 - k) = 44 by omega]
theorem at5 {a n k : Int} (H : TopH a n k) : frameAt [(3, a, k), (7, 40, 5), (3, a + k, n - k)] (k + 5) = (3, a + k) := by
  have H0 := H
  obtain ⟨ha, ha2, hn, hn2, hk, hk2⟩ := H0
  rw [frameAt_yes (tokY H) (by omega)]
  simp only [seen]
  rw [if_neg (by omega), if_neg (by omega), if_pos (by omega), if_neg (by decide), show a + k + (k + 5 - k - 5) = a + k by omega]
theorem at0 {a n k : Int} (H : TopH a n k) : frameAt [(3, a, k), (7, 42, 5), (3, a + k, n - k)] k = (7, 42) := by
  have H0 := H
  obtain ⟨ha, ha2, hn, hn2, hk, hk2⟩ := H0
  rw [frameAt_yes (tokZ H) (by omega)]
  simp only [seen]
  rw [if_neg (by omega), if_pos (by omega), if_neg (by decide), show (42 : Int) + (k - k) = 42 by omega]
theorem extr_eq {a n k : Int} (H : TopH a n k) : extractS [(3, a, k), (7, 42, 5), (3, a + k, n - k)] k 5 = some [(3, a, n)] := by
  have H0 := H
  obtain ⟨ha, ha2, hn, hn2, hk, hk2⟩ := H0
  have hZ := tokZ H
  have hcl : clen [(3, a, k), (7, 42, 5), (3, a + k, n - k)] = n + 5 := by simp [clen]; omega
  have h1 := cok3 (a := a) (n := k) (by omega) (by omega) (by omega)
  have h3 := cok3 (a := a + k) (n := n - k) (by omega) (by omega) (by omega)
  unfold extractS
  rw [if_pos ⟨hZ, by unfold InR; rw [hcl]; omega, by unfold InR; rw [hcl]; omega⟩]
  unfold putS
  have e1 : part [(3, a, k), (7, 42, 5), (3, a + k, n - k)] 0 k = [(3, a, k)] := by
    simp only [part, ptOne]
    have c1 : max (0 : Int) 0 < min k k := by omega
    have c2 : ¬ max (0 - k) 0 < min (k - k) 5 := by omega
    have c3 : ¬ max (0 - k - 5) 0 < min (k - k - 5) (n - k) := by omega
    rw [if_pos c1, if_neg c2, if_neg c3, if_neg (by decide), show min k k = k by omega]
    simp
  have e2 : part [(3, a, k), (7, 42, 5), (3, a + k, n - k)] (k + 5) 10000000 = [(3, a + k, n - k)] := by
    simp only [part, ptOne]
    rw [if_neg (by omega), if_neg (by omega), if_pos (by omega), if_neg (by decide), show min (10000000 - k - 5) (n - k) = n - k by omega, show max (k + 5 - k - 5) 0 = 0 by omega]
    simp
  rw [e1, e2]
  have hg : goes (3, a, k) (3, a + k, n - k) := ⟨rfl, .inr rfl⟩
  have hj : join [(3, a, k), (3, a + k, n - k)] = [(3, a, n)] := by
    simp only [join, List.foldl_cons, List.foldl_nil, jstep_nil]
    rw [show ([(3, a, k)] : List Kl) = [] ++ [(3, a, k)] from rfl, jstep_snoc, if_pos hg]
    simp
    omega
  have e := edit_yes (x := [(3, a, k), (3, a + k, n - k)]) (AOk.cons h1 (AOk.cons h3 AOk.nil)) (by rw [hj]; exact tokX H)
  rw [hj] at e
  exact e
theorem chg_eq {a n k : Int} (H : TopH a n k) : changesOf [] [(3, a, n)] = [(3, 3, a, n)] := by
  have H0 := H
  obtain ⟨ha, ha2, hn, hn2, hk, hk2⟩ := H0
  have hX := tokX H
  have hl : clen [(3, a, n)] = n := by simp [clen]
  have hm : min (clen []) (clen [(3, a, n)]) = 0 := by rw [hl]; simp [clen]; omega
  have p0 : ∀ l m, IsPfx l m 0 0 := fun l m => ⟨by omega, by omega, fun i h1 h2 => by omega, fun h => by omega⟩
  rw [changes_yes (p := 0) (q := 0) ⟨ok_nil.1, hX⟩ (by rw [hm]; exact p0 _ _) (by rw [hm]; exact p0 _ _), hl]
  have e1 : part [(3, a, n)] 0 (n - 0) = [(3, a, n)] := by
    simp only [part, ptOne]
    rw [if_pos (by omega), if_neg (by decide), show min (n - 0) n = n by omega]
    simp
  rw [e1]
  simp [frs, clen, adds, join, jstep]
end Go.Proofs.YtioaehjppiodfaaGreatDoor
