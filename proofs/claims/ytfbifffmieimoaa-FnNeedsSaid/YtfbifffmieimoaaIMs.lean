/-
  What is missing, and whether nothing is: the program's functions and their contracts.
-/
import Derived.Test.YtfbifffmieimoaaTld
namespace Go.Proofs.Ytfbifffmieimoaa.Rl
open Go.RowKit
open Go.Proofs.Ytfbifffmieimoaa
set_option linter.unusedVariables false
set_option linter.unusedSimpArgs false

theorem own_form {w : World} {B n : Nat} {v : Value} {xs : List Value} {g : Nat} (h : w.ownsRow B 34 3 v n xs) (hb : v.ownBlock = some g) : ∃ cap, v = .slice (some ⟨g, 0, none⟩) n cap := by
  rcases h.2 with ⟨hv, _⟩ | ⟨g', cap, cur, hv, _⟩
  · rw [hv] at hb; simp [Value.ownBlock] at hb
  · rw [hv] at hb
    simp [Value.ownBlock] at hb
    subst hb
    exact ⟨cap, hv⟩
/-- reels more behind an owned list: all blocks but its row stand -/
theorem wpList_appR {T : TypeId} (hT : Try.prog.underlying T = some (.slice 34)) {ops : Array Oper} {rest : List Oper} {o : Oper} {a : Act} {Q : Exit → Act → World → Prop} (w : World) (hgd : o.guard = none) (s x : Operand) (ho : o.op = .call { callee := .builtin .append, args := #[s, x], argTypes := #[T, T] })
    (B g n cap : Nat) (L1 L2 : List Kl) (b q c2 : Nat) (hs : a.eval s = .slice (some ⟨g, 0, none⟩) n cap) (hown : Own w B g n cap L1) (hx : a.eval x = .slice (some ⟨b, q, none⟩) L2.length c2) (hK : Kls w (some ⟨b, q, none⟩) L2) (hl1 : n ≤ 1000000) (hl2 : L2.length ≤ 1000000) (hB : B ≤ w.heap.size)
    (h : ∀ g' cap' w', Own w' B g' (n + L2.length) cap' (L1 ++ L2) → w.grownBy w' (some g) → (g' = g ∨ g' = w.heap.size) → wpList Try.prog ops Q rest (a.put o.dst (.slice (some ⟨g', 0, none⟩) (n + L2.length) cap')) w') : wpList Try.prog ops Q (o :: rest) a w := by
  obtain ⟨i0, hi, hz0, hz1, hz2⟩ := info_parts info44
  refine wpList_append_own_at _ hgd s x T ho B 34 i0 (.agg #[.int .i64 0, .int .i64 0, .int .i64 0]) 3 24 hT hi hz0 hz1 hz2 rfl (by decide) _ n (flK L1) hs hown ⟨b, q, none⟩ L2.length c2 (flK L2) hx (flK_len _) (kls_cells hK) (flK_one _) (by unfold maxLen; omega) (by omega) hB ?_
  intro v' w' h1 h2 h3 h4
  have hgr : w.grownBy w' (some g) := h2
  obtain ⟨g', hg', hgo⟩ : ∃ g', v'.ownBlock = some g' ∧ (g' = g ∨ g' = w.heap.size) := by
    rcases h4 with h4 | h4
    · exact ⟨g, by rw [h4]; rfl, Or.inl rfl⟩
    · exact ⟨_, h4, Or.inr rfl⟩
  obtain ⟨cap', rfl⟩ := own_form h1 hg'
  refine h g' cap' w' ?_ hgr hgo
  show World.ownsRow _ _ _ _ _ _ _
  rw [flK_append]; exact h1
theorem kls_keep {w wr : World} {b q : Nat} {l : List Kl} (h : Kls w (some ⟨b, q, none⟩) l) (hb : wr.heap[b]? = w.heap[b]?) (hs : w.heap.size ≤ wr.heap.size) : Kls wr (some ⟨b, q, none⟩) l := by
  intro j x hx
  obtain ⟨b', o, e, h1, c0, c1, c2⟩ := h j x hx
  injection e with e
  injection e with e1 e2
  subst e1 e2
  have C : ∀ o, wr.cell? ⟨b, o, none⟩ = w.cell? ⟨b, o, none⟩ := fun o => World.cell?_of_block (a := ⟨b, o, none⟩) hb
  exact ⟨b, q, rfl, Nat.lt_of_lt_of_le h1 hs, (C _).trans c0, (C _).trans c1, (C _).trans c2⟩
theorem grown_more {w w1 w2 : World} {g0 g : Nat} (h : w.grownBy w1 (some g0)) (k : w1.grownBy w2 (some g)) (hg : g = g0 ∨ w.heap.size ≤ g) : w.grownBy w2 (some g0) :=
  ⟨k.os.trans h.os, k.tape.trans h.tape, k.output.trans h.output, Nat.le_trans h.size k.size, fun i hi hn => by
    have h1 := h.block i hi hn
    have h2 := k.block i (Nat.lt_of_lt_of_le hi h.size) (by
      intro e; injection e with e
      rcases hg with hg | hg
      · exact hn (by rw [e, hg])
      · omega)
    exact h2.trans h1⟩
theorem grown_below {w w1 w2 : World} {g0 : Nat} (h : w.grownBy w1 (some g0)) (k : Below w1.heap.size w1 w2) : w.grownBy w2 (some g0) :=
  ⟨k.os.trans h.os, k.tape.trans h.tape, k.output.trans h.output, Nat.le_trans h.size k.size, fun i hi hn => (k.block i (Nat.lt_of_lt_of_le hi h.size)).trans (h.block i hi hn)⟩
theorem wo_more {l m : List Kl} {k : Nat} {x : Kl} (hx : l[k]? = some x) : missG (l.take (k + 1)) m = missG (l.take k) m ++ wo x.1 x.2.2 x.2.1 m := by
  rw [take_snocK hx]; simp [missG]
theorem missG_bd {l m : List Kl} {k : Nat} (h1 : l.length ≤ 300) (h2 : m.length ≤ 300) (hk : k ≤ l.length) : (missG (l.take k) m).length ≤ 100000 := by
  have h := missG_len (l.take k) m
  have h3 : (l.take k).length * (m.length + 1) ≤ 300 * 301 := Nat.mul_le_mul (by rw [List.length_take]; omega) (by omega)
  omega
theorem rs_le {l : List Kl} (h : RsOk l) : ∀ r ∈ l, r.2.1 ≤ r.2.2 := fun r hr => by have := (h.2 r hr).2.2.1; omega

set_option maxRecDepth 100000 in
set_option maxHeartbeats 3200000 in
theorem imiss_ok (a b : Option Addr) (ca cb : Nat) (l m : List Kl) (w : World) (hL : RsOk l) (hM : RsOk m) (hk : Kls w a l) (hj : Kls w b m) :
    Calls Try.prog 14 #[.slice a l.length ca, .slice b m.length cb] w fun e w' => ∃ g c, e = .returned (.slice (some ⟨g, 0, none⟩) (missing l m).length c) ∧ Own w' w.heap.size g (missing l m).length c (missing l m) ∧ Below w.heap.size w w' := by
  have hk' := hide hk
  have hj' := hide hj
  have hL' := hide hL
  have hM' := hide hM
  have n1 := hL.1
  have n2 := hM.1
  clear hk hj hL hM
  go_enter Try.func14, Try.ntmps14
  go_wp2_with fail
  refine (ireels_any a ca l true _ (by unfold maxLen; omega) (unhide hk') (by simpa using unhide hL')).mono ?_
  rintro e w1 ⟨rfl, k1⟩
  have k1' := hide k1
  have hj1 := hide ((unhide hj').below k1)
  clear k1
  go_wp2_with fail
  refine (ireels_any b cb m true _ (by unfold maxLen; omega) (unhide hj1) (by simpa using unhide hM')).mono ?_
  rintro e w2 ⟨rfl, k2⟩
  have B2 := hide (laterB (unhide k1') k2)
  clear k1' k2 hj1
  have hal : Below w2.heap.size w2 (w2.alloc (.cells #[] 34)) := (Below.refl _ _).alloc (Nat.le_refl _) _
  have B3 := hide (laterB (unhide B2) hal)
  have hO3 := hide (own_lit0 w2 (B := w.heap.size) (unhide B2).size)
  have hj3 := hide ((unhide hj').below (unhide B3))
  have hw2 : w.heap.size ≤ w2.heap.size := (unhide B2).size
  clear hal B2
  go_wp2_with fail
  refine (itold_any b cb m _ (by omega) (unhide hj3) (rs_le (unhide hM'))).mono ?_
  rintro e w4 ⟨gb, cb4, rfl, hO4, k4⟩
  have B4 := hide (laterB (unhide B3) k4)
  have hO3' := hide (ownsRow_below (unhide hO3) k4)
  have hl4 := hide ((unhide hk').below (unhide B4))
  have hgb := own_lt hO4
  have hT4 := hide (kls_own hO4)
  have hne : gb ≠ w2.heap.size := by have := own_ge hO4; simp at this; omega
  clear hO4 k4 B3 hO3 hj3
  go_wp2_with fail
  refine (itold_any a ca l _ (by omega) (unhide hl4) (rs_le (unhide hL'))).mono ?_
  rintro e w5 ⟨ga, ca5, rfl, hO5, k5⟩
  have B5 := hide (laterB (unhide B4) k5)
  have hO35 := hide (ownsRow_below (unhide hO3') k5)
  have hT5 := hide ((unhide hT4).below k5)
  have hA5 := hide (kls_own hO5)
  have hga := own_lt hO5
  have hgb5 : gb < w5.heap.size := Nat.lt_of_lt_of_le hgb k5.size
  have hne2 : ga ≠ w2.heap.size := by have := own_ge hO5; have := own_lt (unhide hO3'); omega
  have h235 := own_lt (unhide hO35)
  have l1 : (told l).length ≤ 300 := Nat.le_trans (told_len l) n1
  have l2 : (told m).length ≤ 300 := Nat.le_trans (told_len m) n2
  have hfin : Hid (missing l m = missG ((told l).take (told l).length) (told m)) := hide (by rw [List.take_length]; rfl)
  have hw5 : w.heap.size ≤ w5.heap.size := (unhide B5).size
  clear hO5 k5 B4 hO3' hl4 hT4 hgb
  obtain ⟨R, hR0⟩ : ∃ R, R = missing l m := ⟨_, rfl⟩
  rw [← hR0] at hfin
  have hR0' := hide hR0
  clear hR0
  generalize told l = A at *
  generalize told m = D at *
  have h0 : Hid (Own w5 w.heap.size w2.heap.size (missG (A.take 0) D).length 0 (missG (A.take 0) D)) := hide (by simpa [missG] using unhide hO35)
  generalize w2.heap.size = g0 at *
  go_wp2
  go_loopw [5, 24] (fun s t wr => ∃ k g c : Nat, k ≤ A.length ∧ t = .int .i64 k ∧ s = .slice (some ⟨g, 0, none⟩) (missG (A.take k) D).length c ∧ Hid (Own wr w.heap.size g (missG (A.take k) D).length c (missG (A.take k) D)) ∧ Hid (w5.grownBy wr (some g0)) ∧ Hid (g = g0 ∨ w5.heap.size ≤ g)) (fun _ t _ => A.length - (intOf t).toNat)
  case atStart => exact ⟨0, g0, 0, by omega, rfl, by simp [missG], h0, hide (grown_refl _ _), hide (Or.inl rfl)⟩
  case round =>
    clear h0
    obtain ⟨k, g, cp, hk, rfl, rfl, hO, hG, hg0⟩ := hrel
    have hGb : Hid (∀ i, i < w5.heap.size → i ≠ g0 → wr.heap[i]? = w5.heap[i]?) := hide (fun i hi hn => (unhide hG).block i hi (by intro e; injection e with e; exact hn e))
    have hBr : Hid (Below w.heap.size w wr) := hide ((unhide B5).trans ⟨(unhide hG).os, (unhide hG).tape, (unhide hG).output, (unhide hG).size, fun i hi => unhide hGb i (by omega) (by omega)⟩)
    have hA' : Hid (Kls wr (some ⟨ga, 0, none⟩) A) := hide (kls_keep (unhide hA5) (unhide hGb ga hga hne2) (unhide hG).size)
    have hD' : Hid (Kls wr (some ⟨gb, 0, none⟩) D) := hide (kls_keep (unhide hT5) (unhide hGb gb hgb5 hne) (unhide hG).size)
    have hglt : g < wr.heap.size := own_lt (unhide hO)
    have hwr : w.heap.size ≤ wr.heap.size := (unhide hBr).size
    by_cases hlt : k < A.length
    · obtain ⟨x, hx⟩ : ∃ x, A[k]? = some x := ⟨A[k], List.getElem?_eq_getElem hlt⟩
      obtain ⟨b', o', e, i1, c0, c1, c2⟩ := unhide hA' k x hx
      injection e with e
      injection e with e1 e2
      subst e1 e2
      rw [Nat.zero_add] at c0 c1 c2
      have hmo := hide (wo_more (m := D) hx)
      have hbd := missG_bd (k := k) l1 l2 hk
      have hwl := wo_len x.1 x.2.2 x.2.1 D
      obtain ⟨x1, x2, x3⟩ := x
      have hXb : Below wr.heap.size wr (wr.alloc (.cells #[.int .i64 x1, .int .i64 x2, .int .i64 x3] 34)) := (Below.refl _ _).alloc (Nat.le_refl _) _
      have hDX := hide ((unhide hD').below hXb)
      have hOX := hide (ownsRow_below (unhide hO) hXb)
      have hGX := hide (grown_below (unhide hG) hXb)
      simp only [] at hmo hwl
      clear hx hXb hO hG hGb hA' hD'
      generalize missG (A.take k) D = L at *
      go_wp2_with fail
      refine (wo_any x1 x2 x3 (some ⟨gb, 0, none⟩) cb4 D _ (by omega) (unhide hDX)).mono ?_
      rintro e w6 ⟨g6, c6, rfl, hO6, k6⟩
      have hO6' := hide (kls_own hO6)
      have hOg := hide (ownsRow_below (unhide hOX) k6)
      have hG6 := hide (grown_below (unhide hGX) k6)
      have hs6 := k6.size
      clear hO6 k6 hOX hGX hDX
      generalize wo x1 x3 x2 D = N at *
      go_wp2_with (at_builtin; refine wpList_appR Try.underlying27 w6 rfl _ _ rfl w.heap.size g L.length cp L N g6 0 c6 rfl (unhide hOg) rfl (unhide hO6') (by omega) (by omega) (by simp at hs6; omega) ?_)
      intro g7 c7 w7 hO7 hG7 hgo
      have hO7' : Hid (Own w7 w.heap.size g7 (missG (A.take (k + 1)) D).length c7 (missG (A.take (k + 1)) D)) := hide (by rw [unhide hmo, List.length_append]; exact hO7)
      have hG7' := hide (grown_more (unhide hG6) hG7 (unhide hg0))
      have hgn : Hid (g7 = g0 ∨ w5.heap.size ≤ g7) := hide (by
        rcases hgo with h | h
        · rw [h]; exact unhide hg0
        · right; rw [h]; exact (unhide hG6).size)
      have hll : Hid ((missG (A.take (k + 1)) D).length = L.length + N.length) := hide (by rw [unhide hmo, List.length_append])
      clear hO7 hG7 hgo hOg hG6 hO6' hmo
      go_wp2
      go_roundw
      case rel => exact ⟨k + 1, g7, c7, by omega, by go_num, by rw [unhide hll], hO7', hG7', hgn⟩
      case measure => simp [intOf]; omega
    · have hke : k = A.length := by omega
      have hR : Hid (R = missG (A.take k) D) := hide (by rw [unhide hfin, hke])
      have hke' := hide hke
      clear hke
      go_wp2
      go_ret
      rw [← unhide hR0', unhide hR]
      exact ⟨g, cp, rfl, unhide hO, unhide hBr⟩

end Go.Proofs.Ytfbifffmieimoaa.Rl
