/-
  Bytes in memory, and what is put behind a row of one's own; contracts of the law's own functions. Nothing that was there is written.
  FnTop, plain: the text and what is wanted of it.
-/
import Derived.Test.YtioaehjppiodfaaGreatDoorGBnY
import Derived.Laws.AppendOwnNone
namespace Go.Proofs.YtioaehjppiodfaaGreatDoor
open Go.RowKit
set_option linter.unusedVariables false
set_option linter.unusedSimpArgs false

def Row (own : Bool) (lo hi : Nat) (w : World) (a : Option Addr) (zs : List Int) : Prop :=
  ∀ j z, zs[j]? = some z → ∃ b o, a = some ⟨b, o, none⟩ ∧ lo ≤ b ∧ b < hi ∧ w.cell? ⟨b, o + j, none⟩ = some (.int .u8 z) ∧ 0 ≤ z ∧ z ≤ 255 ∧ (own = true → w.frozen? ⟨b, o + j, none⟩ = false)

theorem Row.mono {own : Bool} {lo hi lo' hi' : Nat} {w : World} {a : Option Addr} {zs : List Int} (h : Row own lo hi w a zs) (h1 : lo' ≤ lo) (h2 : hi ≤ hi') : Row own lo' hi' w a zs := by
  intro j z hz
  obtain ⟨b, o, e, i1, i2, r⟩ := h j z hz
  exact ⟨b, o, e, by omega, by omega, r⟩

theorem Row.read {lo hi : Nat} {w : World} {a : Option Addr} {zs : List Int} (h : Row true lo hi w a zs) : Row false lo hi w a zs := by
  intro j z hz
  obtain ⟨b, o, e, i1, i2, hc, z0, z1, _⟩ := h j z hz
  exact ⟨b, o, e, i1, i2, hc, z0, z1, fun h => by cases h⟩

def u8 (z : Int) : Value := .int .u8 z

theorem info5 : (Tryz.prog.info? 5).map (fun i => (i.zero, i.size, i.bytes)) = some (some (.int .u8 0), 1, 1) := by kernel_rfl

theorem row_of_own {w : World} {B g n cap : Nat} {zs : List Int} (h : w.ownsRow B 5 1 (.slice (some ⟨g, 0, none⟩) n cap) n (zs.map u8)) (hz : ∀ z ∈ zs, 0 ≤ z ∧ z ≤ 255) : Row true g (g + 1) w (some ⟨g, 0, none⟩) zs := by
  intro j z hj
  have hl : zs.length = n := by have := h.1; simpa using this
  have hjl : j < zs.length := (List.getElem?_eq_some_iff.1 hj).1
  have hc := h.cellAt j (by omega)
  rw [List.getElem?_map, hj] at hc
  have hm := hz z (List.mem_of_getElem? hj)
  exact ⟨g, 0, rfl, by omega, by omega, by rw [Nat.zero_add]; exact hc, hm.1, hm.2, fun _ => by rw [Nat.zero_add]; exact h.frozenAt j⟩

theorem Row.bd {own : Bool} {lo hi : Nat} {w : World} {a : Option Addr} {zs : List Int} (h : Row own lo hi w a zs) : ∀ z ∈ zs, 0 ≤ z ∧ z ≤ 255 := by
  intro z hz
  obtain ⟨j, hj⟩ := List.getElem?_of_mem hz
  obtain ⟨b, o, _, _, _, _, z0, z1, _⟩ := h j z hj
  exact ⟨z0, z1⟩

theorem row_news {Hh : Nat} {w : World} {ad : Addr} {zs : List Int} (hr : Row false 0 Hh w (some ad) zs) : ∀ j u, (zs.map u8)[j]? = some u → w.cell? (ad.add j) = some u := by
  intro j u hj
  rw [List.getElem?_map] at hj
  obtain ⟨z, hz, rfl⟩ := Option.map_eq_some_iff.1 hj
  obtain ⟨b, o, e, _, _, hc, _⟩ := hr j z hz
  injection e with e
  subst e
  rw [Addr.add_lit]; exact hc

theorem u8_one (zs : List Int) : ∀ u ∈ zs.map u8, u.oneCell' = true := by
  intro u hu
  obtain ⟨z, _, rfl⟩ := List.mem_map.1 hu
  rfl

theorem wp_bytes {o : Oper} {a : Act} {K : Act → World → Prop} {Q : Exit → Act → World → Prop} (w : World) (s x : Operand) (ho : o.op = .call { callee := .builtin .append, args := #[s, x], argTypes := #[22, 22] })
    (B n Hh : Nat) (v : Value) (xs : List Value) (hs : a.eval s = v) (hown : w.ownsRow B 5 1 v n xs) (ad : Addr) (m c : Nat) (zs : List Int) (hm : zs.length = m) (hx : a.eval x = .slice (some ad) m c) (hr : Row false 0 Hh w (some ad) zs) (hlen : n + m ≤ 1000000000) (hB : B ≤ w.heap.size)
    (h : ∀ v' w', w'.ownsRow B 5 1 v' (n + m) (xs ++ zs.map u8) → w.grownBy w' v.ownBlock → (v' = .slice none 0 0 ↔ v = .slice none 0 0 ∧ m = 0) → K (a.put o.dst v') w') : o.wp Tryz.prog a w K Q := by
  obtain ⟨i0, hi, hz0, hz1, hz2⟩ := info_parts info5
  exact wp_append_own w s x 22 ho B 5 i0 (.int .u8 0) 1 1 Tryz.underlying22 hi hz0 hz1 hz2 rfl (by decide) v n xs hs hown ad m c (zs.map u8) hx (by simp; omega) (row_news hr) (u8_one zs) (by unfold maxLen; omega) (by omega) hB h

theorem row_none {Hh : Nat} {w : World} {zs : List Int} (h : Row false 0 Hh w none zs) : zs = [] := by
  cases zs with
  | nil => rfl
  | cons z t =>
    obtain ⟨b, o, e, _⟩ := h 0 z rfl
    cases e

theorem wp_bytesO {o : Oper} {a : Act} {K : Act → World → Prop} {Q : Exit → Act → World → Prop} (w : World) (s x : Operand) (ho : o.op = .call { callee := .builtin .append, args := #[s, x], argTypes := #[22, 22] })
    (B n Hh : Nat) (v : Value) (xs : List Value) (hs : a.eval s = v) (hown : w.ownsRow B 5 1 v n xs) (ad : Option Addr) (m c : Nat) (zs : List Int) (hm : zs.length = m) (hx : a.eval x = .slice ad m c) (hr : Row false 0 Hh w ad zs) (hn : ad = none → c = 0) (hlen : n + m ≤ 1000000000) (hB : B ≤ w.heap.size)
    (h : ∀ v' w', w'.ownsRow B 5 1 v' (n + m) (xs ++ zs.map u8) → w.grownBy w' v.ownBlock → (v' = .slice none 0 0 ↔ v = .slice none 0 0 ∧ m = 0) → K (a.put o.dst v') w') : o.wp Tryz.prog a w K Q := by
  cases ad with
  | some ad => exact wp_bytes w s x ho B n Hh v xs hs hown ad m c zs hm hx hr hlen hB h
  | none =>
    have hz := row_none hr
    have hc := hn rfl
    subst hz
    subst hc
    have hm0 : m = 0 := by rw [← hm]; rfl
    subst hm0
    obtain ⟨i0, hi, hz0, hz1, hz2⟩ := info_parts info5
    have hrun := run_append_owned_none (P := Tryz.prog) (w := w) B 22 o.type 5 i0 1 Tryz.underlying22 hi v n xs hown
    unfold Oper.wp
    simp [execOp, ho, resolve, invoke, builtin, hs, hx, hrun, Result.andThen]
    exact h v w (by simpa using hown) (World.grownBy.refl _ _) (by simp)

theorem wpList_bytesO {ops : Array Oper} {rest : List Oper} {o : Oper} {a : Act} {Q : Exit → Act → World → Prop} (w : World) (hgd : o.guard = none) (s x : Operand) (ho : o.op = .call { callee := .builtin .append, args := #[s, x], argTypes := #[22, 22] })
    (B n Hh : Nat) (v : Value) (xs : List Value) (hs : a.eval s = v) (hown : w.ownsRow B 5 1 v n xs) (ad : Option Addr) (m c : Nat) (zs : List Int) (hm : zs.length = m) (hx : a.eval x = .slice ad m c) (hr : Row false 0 Hh w ad zs) (hn : ad = none → c = 0) (hlen : n + m ≤ 1000000000) (hB : B ≤ w.heap.size)
    (h : ∀ v' w', w'.ownsRow B 5 1 v' (n + m) (xs ++ zs.map u8) → w.grownBy w' v.ownBlock → (v' = .slice none 0 0 ↔ v = .slice none 0 0 ∧ m = 0) → wpList Tryz.prog ops Q rest (a.put o.dst v') w') : wpList Tryz.prog ops Q (o :: rest) a w :=
  wpList_plain hgd fun _ hK => wp_bytesO w s x ho B n Hh v xs hs hown ad m c zs hm hx hr hn hlen hB fun v' w' h2 h3 h4 => hK _ _ (h v' w' h2 h3 h4)

theorem Row.belowW {W w : World} {a : Option Addr} {zs : List Int} (h : Row false 0 W.heap.size W a zs) (hb : Below W.heap.size W w) : Row false 0 w.heap.size w a zs := by
  intro j z hz
  obtain ⟨b, o, e, h1, h2, hc, z0, z1, hf⟩ := h j z hz
  exact ⟨b, o, e, h1, Nat.lt_of_lt_of_le h2 hb.size, by rw [World.cell?_of_block (a := ⟨b, o + j, none⟩) (hb.block b h2)]; exact hc, z0, z1, fun h => by cases h⟩
theorem own_some9 {w : World} {B n : Nat} {e : TypeId} {m : Nat} {v : Value} {xs : List Value} (h : w.ownsRow B e m v n xs) (hn : 0 < n) : ∃ g c, v = .slice (some ⟨g, 0, none⟩) n c ∧ B ≤ g := by
  rcases h.2 with ⟨_, h0⟩ | ⟨g, c, cur, hv, hg, _⟩
  · omega
  · exact ⟨g, c, hv, hg⟩

end Go.Proofs.YtioaehjppiodfaaGreatDoor

namespace Go.Proofs.YtioaehjppiodfaaGreatDoor
open Go.RowKit
set_option linter.unusedVariables false
set_option linter.unusedSimpArgs false

/-- the text that the law makes -/
def topT (a n k : Int) : List UInt8 := (((((((((((((([115, 117, 109, 10, 105, 110, 115, 101, 114, 116, 32, 48, 32, 51, 32] ++ Lib.itoa (a)) ++ [32]) ++ Lib.itoa (n)) ++ [10, 105, 110, 115, 101, 114, 116, 32]) ++ Lib.itoa (k)) ++ [32, 55, 32, 52, 48, 32, 53, 10, 115, 104, 111, 119, 10, 97, 116, 32]) ++ Lib.itoa (k + 4)) ++ [10, 97, 116, 32]) ++ Lib.itoa (k + 5)) ++ [10, 115, 108, 105, 112, 32, 49, 32, 50, 10, 97, 116, 32]) ++ Lib.itoa (k)) ++ [10, 101, 120, 116, 114, 97, 99, 116, 32]) ++ Lib.itoa (k)) ++ [32, 53, 10, 115, 104, 111, 119, 10, 99, 104, 97, 110, 103, 101, 115, 10, 117, 110, 100, 111, 10, 117, 110, 100, 111, 10, 117, 110, 100, 111, 10, 115, 104, 111, 119, 10, 117, 110, 100, 111, 10, 115, 117, 109, 10, 117, 110, 100, 111, 10])
/-- what it wants -/
def topW (a n k : Int) : List (List UInt8) := [[111, 107, 32, 48], ([111, 107, 32] ++ Lib.itoa (n)), ([111, 107, 32] ++ Lib.itoa (n + 5)), ((((((([111, 107, 32, 51, 58] ++ Lib.itoa (a)) ++ [43]) ++ Lib.itoa (k)) ++ [32, 55, 58, 52, 48, 43, 53, 32, 51, 58]) ++ Lib.itoa (a + k)) ++ [43]) ++ Lib.itoa (n - k)), [111, 107, 32, 55, 32, 52, 52], ([111, 107, 32, 51, 32] ++ Lib.itoa (a + k)), ([111, 107, 32] ++ Lib.itoa (n + 5)), [111, 107, 32, 55, 32, 52, 50], ([111, 107, 32] ++ Lib.itoa (n)), ((([111, 107, 32, 51, 58] ++ Lib.itoa (a)) ++ [43]) ++ Lib.itoa (n)), ([111, 107, 32, 49, 32] ++ Lib.itoa (n)), ([111, 107, 32] ++ Lib.itoa (n + 5)), ([111, 107, 32] ++ Lib.itoa (n + 5)), ([111, 107, 32] ++ Lib.itoa (n)), ((([111, 107, 32, 51, 58] ++ Lib.itoa (a)) ++ [43]) ++ Lib.itoa (n)), [111, 107, 32, 48], [111, 107, 32, 48], [101, 114, 114, 111, 114, 32, 51]]
def topO (a n k : Int) : List (Nat × List Int) := [(12, []), (0, [0, 3, a, n]), (0, [k, 7, 40, 5]), (10, []), (9, [k + 4]), (9, [k + 5]), (5, [1, 2]), (9, [k]), (2, [k, 5]), (10, []), (11, []), (8, []), (8, []), (8, []), (10, []), (8, []), (12, []), (8, [])]
def lineT (o : Nat × List Int) : List UInt8 := Lib.join (keyL o.1 :: o.2.map Lib.itoa) [32]
noncomputable def runT : List (Nat × List Int) → Bch → List An
  | [], _ => []
  | o :: os, s => (tellS o.1 o.2 s).1 :: runT os (tellS o.1 o.2 s).2
theorem lineT_ne (o : Nat × List Int) (h : o.1 < 13) : lineT o ≠ [] := by
  have hk : ∀ i, i < 13 → ∃ x y, keyL i = x :: y := by
    intro i hi
    match i, hi with
    | 0, _ | 1, _ | 2, _ | 3, _ | 4, _ | 5, _ | 6, _ | 7, _ | 8, _ | 9, _ | 10, _ | 11, _ | 12, _ => exact ⟨_, _, rfl⟩
  obtain ⟨x, y, e⟩ := hk o.1 h
  unfold lineT
  rw [e]
  cases o.2 with
  | nil => simp [Lib.join]
  | cons p q => simp [Lib.join]
theorem run_T : ∀ (os : List (Nat × List Int)) (s : Bch), (∀ o ∈ os, o.1 < 13 ∧ ∀ x ∈ o.2, 0 ≤ x ∧ x < 1000) → (runS (os.map lineT) s).1 = (runT os s).map atL := by
  intro os
  induction os with
  | nil => intro s _; rfl
  | cons o os ih =>
    intro s h
    have ho := h o (by simp)
    have e : lineS (lineT o) s = tellS o.1 o.2 s := line_of ho.1 o.2 ho.2 s
    rw [List.map_cons, runS_cons (lineT_ne o ho.1), e, ih _ (fun x hx => h x (by simp [hx]))]
    rfl
theorem itoa_c : Lib.itoa 0 = [48] ∧ Lib.itoa 1 = [49] ∧ Lib.itoa 2 = [50] ∧ Lib.itoa 3 = [51] ∧ Lib.itoa 5 = [53] ∧ Lib.itoa 7 = [55] ∧ Lib.itoa 40 = [52, 48] ∧ Lib.itoa 42 = [52, 50] ∧ Lib.itoa 44 = [52, 52] := by decide +kernel
theorem top_text (a n k : Int) : topT a n k = flat ((topO a n k).map lineT) := by
  obtain ⟨i0, i1, i2, i3, i5, i7, i40, i42, i44⟩ := itoa_c
  simp [topT, topO, lineT, flat, Lib.join, keyL, i0, i1, i2, i3, i5, i7, i40]
theorem sum_nil : sumT [] = 0 := by simp [sumT, btI, Lib.join, dig, dgs]
theorem top_run {a n k : Int} (H : TopH a n k) : runT (topO a n k) ([], []) = [.nums [0], .nums [n], .nums [n + 5], .clips [(3, a, k), (7, 40, 5), (3, a + k, n - k)], .nums [7, 44], .nums [3, a + k], .nums [n + 5], .nums [7, 42], .nums [n], .clips [(3, a, n)], .nums [1, n], .nums [n + 5], .nums [n + 5], .nums [n], .clips [(3, a, n)], .nums [0], .nums [0], .err 3] := by
  have hl0 : lenOf [] = 0 := by unfold lenOf; rw [if_pos ok_nil.1]; rfl
  have e0 : ∀ (st : List (List Kl)), tellS 12 [] ([], st) = (.nums [0], ([], st)) := fun st => by
    show (An.nums [sumT []], (([], st) : Bch)) = _
    rw [sum_nil]
  have e1 : tellS 0 [0, 3, a, n] ([], []) = (.nums [n], ([(3, a, n)], [[]])) := by
    show doE (insertS [] 0 (3, a, n)) ([], []) = _
    rw [ins1_eq H]
    simp [doE, lenX H]
  have e2 : tellS 0 [k, 7, 40, 5] ([(3, a, n)], [[]]) = (.nums [n + 5], ([(3, a, k), (7, 40, 5), (3, a + k, n - k)], [[], [(3, a, n)]])) := by
    show doE (insertS [(3, a, n)] k (7, 40, 5)) ([(3, a, n)], [[]]) = _
    rw [ins2_eq H]
    simp [doE, lenY H]
  have eS : ∀ (s : Bch), tellS 10 [] s = (.clips s.1, s) := fun s => rfl
  have e4 : ∀ (st : List (List Kl)), tellS 9 [k + 4] ([(3, a, k), (7, 40, 5), (3, a + k, n - k)], st) = (.nums [7, 44], ([(3, a, k), (7, 40, 5), (3, a + k, n - k)], st)) := fun st => by
    show seeS (k + 4) ([(3, a, k), (7, 40, 5), (3, a + k, n - k)], st) = _
    simp [seeS, at4 H]
  have e5 : ∀ (st : List (List Kl)), tellS 9 [k + 5] ([(3, a, k), (7, 40, 5), (3, a + k, n - k)], st) = (.nums [3, a + k], ([(3, a, k), (7, 40, 5), (3, a + k, n - k)], st)) := fun st => by
    show seeS (k + 5) ([(3, a, k), (7, 40, 5), (3, a + k, n - k)], st) = _
    simp [seeS, at5 H]
  have e6 : tellS 5 [1, 2] ([(3, a, k), (7, 40, 5), (3, a + k, n - k)], [[], [(3, a, n)]]) = (.nums [n + 5], ([(3, a, k), (7, 42, 5), (3, a + k, n - k)], [[], [(3, a, n)], [(3, a, k), (7, 40, 5), (3, a + k, n - k)]])) := by
    show doE (slipS [(3, a, k), (7, 40, 5), (3, a + k, n - k)] 1 2) ([(3, a, k), (7, 40, 5), (3, a + k, n - k)], [[], [(3, a, n)]]) = _
    rw [slip_eqT H]
    simp [doE, lenZ H]
  have e7 : ∀ (st : List (List Kl)), tellS 9 [k] ([(3, a, k), (7, 42, 5), (3, a + k, n - k)], st) = (.nums [7, 42], ([(3, a, k), (7, 42, 5), (3, a + k, n - k)], st)) := fun st => by
    show seeS k ([(3, a, k), (7, 42, 5), (3, a + k, n - k)], st) = _
    simp [seeS, at0 H]
  have e8 : ∀ (st : List (List Kl)), tellS 2 [k, 5] ([(3, a, k), (7, 42, 5), (3, a + k, n - k)], st) = (.nums [n], ([(3, a, n)], st ++ [[(3, a, k), (7, 42, 5), (3, a + k, n - k)]])) := fun st => by
    show doE (extractS [(3, a, k), (7, 42, 5), (3, a + k, n - k)] k 5) ([(3, a, k), (7, 42, 5), (3, a + k, n - k)], st) = _
    rw [extr_eq H]
    simp [doE, lenX H]
  have e9 : ∀ (st : List (List Kl)), tellS 11 [] ([(3, a, n)], st) = (.nums [1, n], ([(3, a, n)], st)) := fun st => by
    show chgS ([(3, a, n)], st) = _
    have hn := H.hn
    have hn2 := H.hn2
    simp [chgS, chg_eq H, addL, addF, IntKind.wrap_i64]
    omega
  have eU : ∀ (s : Bch), tellS 8 [] s = undoS s := fun s => rfl
  have hU1 : ∀ (tr t : List Kl) (L : List (List Kl)), undoS (tr, L ++ [t]) = (.nums [lenOf t], (t, L)) := fun tr t L => by simp [undoS]
  have u1 := hU1 [(3, a, n)] [(3, a, k), (7, 42, 5), (3, a + k, n - k)] [[], [(3, a, n)], [(3, a, k), (7, 40, 5), (3, a + k, n - k)]]
  have u2 := hU1 [(3, a, k), (7, 42, 5), (3, a + k, n - k)] [(3, a, k), (7, 40, 5), (3, a + k, n - k)] [[], [(3, a, n)]]
  have u3 := hU1 [(3, a, k), (7, 40, 5), (3, a + k, n - k)] [(3, a, n)] [[]]
  have u4 := hU1 [(3, a, n)] [] []
  have u5 : ∀ tr, undoS (tr, []) = (.err 3, (tr, [])) := fun tr => rfl
  simp only [List.cons_append, List.nil_append] at u1 u2 u3 u4
  simp only [topO, runT, e0, e1, e2, eS, e4, e5, e6, e7, e8, e9, eU, List.cons_append, List.nil_append, u1, u2, u3, u4, u5, lenX H, lenY H, lenZ H, hl0]
theorem top_want (a n k : Int) : [An.nums [0], .nums [n], .nums [n + 5], .clips [(3, a, k), (7, 40, 5), (3, a + k, n - k)], .nums [7, 44], .nums [3, a + k], .nums [n + 5], .nums [7, 42], .nums [n], .clips [(3, a, n)], .nums [1, n], .nums [n + 5], .nums [n + 5], .nums [n], .clips [(3, a, n)], .nums [0], .nums [0], .err 3].map atL = topW a n k := by
  obtain ⟨i0, i1, i2, i3, i5, i7, i40, i42, i44⟩ := itoa_c
  simp [topW, atL, awords, Lib.join, ctL, i0, i1, i3, i5, i7, i40, i42, i44]
theorem top_len {a n k : Int} (H : TopH a n k) : (topT a n k).length ≤ 20000 := by
  obtain ⟨ha, ha2, hn, hn2, hk, hk2⟩ := H
  have z : ∀ x : Int, -1000 ≤ x → x ≤ 1000 → (Lib.itoa x).length ≤ 21 := fun x h1 h2 => Lib.itoa_length_le x (by omega) (by omega)
  have z1 := z a (by omega) (by omega)
  have z2 := z n (by omega) (by omega)
  have z3 := z k (by omega) (by omega)
  have z4 := z (k + 4) (by omega) (by omega)
  have z5 := z (k + 5) (by omega) (by omega)
  simp [topT]
  omega
theorem top_lines {a n k : Int} (H : TopH a n k) : linesC (benchL (topT a n k)) = topW a n k := by
  have hlen := top_len H
  have hb : ∀ o ∈ topO a n k, o.1 < 13 ∧ ∀ x ∈ o.2, 0 ≤ x ∧ x < 1000 := by
    obtain ⟨ha, ha2, hn, hn2, hk, hk2⟩ := H
    intro o ho
    simp only [topO, List.mem_cons, List.not_mem_nil, or_false] at ho
    rcases ho with rfl | rfl | rfl | rfl | rfl | rfl | rfl | rfl | rfl | rfl | rfl | rfl | rfl | rfl | rfl | rfl | rfl | rfl <;>
      (refine ⟨by dsimp only; omega, fun x hx => ?_⟩; simp at hx; try omega)
  have h10 : ∀ x ∈ (topO a n k).map lineT, (10 : UInt8) ∉ x := by
    intro x hx
    obtain ⟨o, ho, rfl⟩ := List.mem_map.1 hx
    unfold lineT
    refine join_no10 (fun y hy => ?_)
    rcases List.mem_cons.1 hy with rfl | hy
    · have : ∀ i, i < 13 → (10 : UInt8) ∉ keyL i := by decide
      exact this _ (hb o ho).1
    · obtain ⟨z, _, rfl⟩ := List.mem_map.1 hy
      exact itoa_no10 z
  have hln := lnL_flat h10
  rw [bench_lines hlen (by rw [top_text, hln]; simp [topO]), top_text, hln, run_T _ _ hb, top_run H, top_want]
end Go.Proofs.YtioaehjppiodfaaGreatDoor
