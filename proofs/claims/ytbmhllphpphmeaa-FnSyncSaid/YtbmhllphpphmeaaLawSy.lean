/-
  For every list of bytes: a sound with one peak that is drawn of it is found where it was moved; no condition.
-/
import Derived.Test.YtbmhllphpphmeaaByM
import Derived.Test.YtbmhllphpphmeaaSnQ
import Derived.Test.YtbmhllphpphmeaaSy2
namespace Go.Proofs.Ytbmhllphpphmeaa
open Go.RowKit
set_option linter.unusedVariables false
set_option linter.unusedSimpArgs false

theorem lit_own (w : World) (x : Int) {B : Nat} (hB : B ≤ w.heap.size) : (w.alloc (.cells #[.int .u8 x] 5)).ownsRow B 5 1 (.slice (some ⟨w.heap.size, 0, none⟩) 1 1) 1 [u8 x] := by
  have h := World.ownsRow_lit (base := B) (e := 5) (size := 1) w #[.int .u8 x] 1 hB (by unfold maxLen; omega) rfl
  exact h
/-- the sound in memory, and what was there -/
structure FS (W wr : World) (G N c : Nat) (l : List Nat) : Prop where
  o : wr.ownsRow W.heap.size 26 1 (.slice (some ⟨G, 0, none⟩) N c) N (l.map fl)
  b : Below W.heap.size W wr
theorem FS.later {W wr w1 : World} {G N c : Nat} {l : List Nat} (h : FS W wr G N c l) (hb : Below wr.heap.size wr w1) : FS W w1 G N c l :=
  ⟨ownsRow_below h.o hb, h.b.trans (hb.mono h.b.size)⟩
theorem FS.ln {W wr : World} {G N c : Nat} {l : List Nat} (h : FS W wr G N c l) : l.length = N := by
  have := h.o.1; simpa using this
theorem FS.fls {W wr : World} {G N c : Nat} {l : List Nat} (h : FS W wr G N c l) : Fls false 0 wr.heap.size wr (some ⟨G, 0, none⟩) l := by
  intro j x hj
  obtain ⟨b, o, e, h1, h2, hc, _⟩ := fls_of_own h.o j x hj
  exact ⟨b, o, e, Nat.zero_le _, by have := own_lt h.o; omega, hc, fun h => by cases h⟩
theorem FS.set {W wr : World} {G N c : Nat} {l : List Nat} (h : FS W wr G N c l) (k : Nat) (x : Nat) : FS W (wr.setCell ⟨G, k, none⟩ (.float .f64 x)) G N c (l.set k x) := by
  have h1 := (h.o.stored k (fl x)).1
  have e : (l.map fl).set k (fl x) = (l.set k x).map fl := by rw [List.map_set]
  rw [e] at h1
  exact ⟨h1, h.b.setCell (h.o.lt G rfl).1 _⟩
theorem FS.cell {W wr : World} {G N c k : Nat} {l : List Nat} (h : FS W wr G N c l) (hk : k < N) : (∃ x, wr.cell? ⟨G, k, none⟩ = some (.float .f64 x)) ∧ wr.frozen? ⟨G, k, none⟩ = false := by
  have hl := h.ln
  obtain ⟨b, o, e, _, _, hc, hf⟩ := fls_of_own h.o k l[k] (List.getElem?_eq_getElem (by omega))
  injection e with e
  injection e with e1 e2
  subst e1 e2
  rw [Nat.zero_add] at hc hf
  exact ⟨⟨_, hc⟩, hf rfl⟩
theorem getD_set (l : List Int) (k j : Nat) (x : Int) (hk : k < l.length) : (l.set k x).getD j 0 = if j = k then x else l.getD j 0 := by
  rw [List.getD_eq_getElem?_getD, List.getD_eq_getElem?_getD, List.getElem?_set]
  by_cases h : k = j
  · subst h; simp [hk]
  · have : ¬ j = k := fun e => h e.symm
    simp [h, this]
theorem getD_setN (l : List Nat) (k j : Nat) (x : Nat) (hk : k < l.length) : (l.set k x).getD j 0 = if j = k then x else l.getD j 0 := by
  rw [List.getD_eq_getElem?_getD, List.getD_eq_getElem?_getD, List.getElem?_set]
  by_cases h : k = j
  · subst h; simp [hk]
  · have : ¬ j = k := fun e => h e.symm
    simp [h, this]
theorem Ints.set {l : List Nat} {A : List Int} (h : Ints l A) {k x : Nat} {a : Int} (hk : k < l.length) (hx : Ie.IsI x a) : Ints (l.set k x) (A.set k a) := by
  refine ⟨by rw [List.length_set, List.length_set]; exact h.1, fun i hi => ?_⟩
  rw [List.length_set] at hi
  rw [getD_setN l k i x hk, getD_set A k i a (by rw [← h.1]; exact hk)]
  split
  · exact hx
  · exact h.2 i hi
theorem ints_zero (n : Nat) : Ints (List.replicate n 0) (List.replicate n 0) := by
  refine ⟨by simp, fun i hi => ?_⟩
  have e1 : (List.replicate n (0 : Nat)).getD i 0 = 0 := by rw [List.getD_eq_getElem?_getD]; simp at hi; simp [List.getElem?_replicate, hi]
  have e2 : (List.replicate n (0 : Int)).getD i 0 = 0 := by rw [List.getD_eq_getElem?_getD]; simp at hi; simp [List.getElem?_replicate, hi]
  rw [e1, e2]; exact isI_zero
/-- whole numbers from -1 to 1 -/
def Low (A : List Int) : Prop := ∀ i, -1 ≤ A.getD i 0 ∧ A.getD i 0 ≤ 1
theorem low_zero (n : Nat) : Low (List.replicate n 0) := by
  intro i
  have e2 : (List.replicate n (0 : Int)).getD i 0 = 0 := by
    rw [List.getD_eq_getElem?_getD, List.getElem?_replicate]; split <;> rfl
  rw [e2]; omega
theorem Low.set {A : List Int} (h : Low A) {k : Nat} {a : Int} (hk : k < A.length) (h0 : -1 ≤ a) (h1 : a ≤ 1) : Low (A.set k a) := by
  intro i
  rw [getD_set A k i a hk]
  split
  · exact ⟨h0, h1⟩
  · exact h i
theorem Low.peak {A : List Int} (h : Low A) {P : Nat} (hP : P < A.length) : Sn.Peak (A.set P 500) P := by
  refine ⟨by rw [List.length_set]; exact hP, ?_, fun i hi => ?_⟩
  · rw [getD_set A P P 500 hP, if_pos rfl]
  · rw [getD_set A P i 500 hP, if_neg hi]; exact h i
theorem getD_app (n i : Nat) (A : List Int) : (List.replicate n (0 : Int) ++ A).getD i 0 = if i < n then 0 else A.getD (i - n) 0 := by
  rw [List.getD_eq_getElem?_getD, List.getD_eq_getElem?_getD, List.getElem?_append]
  simp only [List.length_replicate]
  split
  · rename_i h; simp [List.getElem?_replicate, h]
  · rfl
theorem getD_appN (n i : Nat) (A : List Nat) : (List.replicate n (0 : Nat) ++ A).getD i 0 = if i < n then 0 else A.getD (i - n) 0 := by
  rw [List.getD_eq_getElem?_getD, List.getD_eq_getElem?_getD, List.getElem?_append]
  simp only [List.length_replicate]
  split
  · rename_i h; simp [List.getElem?_replicate, h]
  · rfl
theorem peak_app {A : List Int} {P : Nat} (h : Sn.Peak A P) (n : Nat) : Sn.Peak (List.replicate n 0 ++ A) (n + P) := by
  refine ⟨by rw [List.length_append, List.length_replicate]; have := h.1; omega, ?_, fun i hi => ?_⟩
  · rw [getD_app, if_neg (by omega)]
    have e : n + P - n = P := by omega
    rw [e]; exact h.2.1
  · rw [getD_app]
    split
    · omega
    · exact h.2.2 _ (by omega)
theorem ints_app {l : List Nat} {A : List Int} (h : Ints l A) (n : Nat) : Ints (List.replicate n 0 ++ l) (List.replicate n 0 ++ A) := by
  refine ⟨by simp [h.1], fun i hi => ?_⟩
  rw [getD_app, getD_appN]
  split
  · exact isI_zero
  · rw [List.length_append, List.length_replicate] at hi
    exact h.2 _ (by omega)
theorem fl_news {Hh : Nat} {w : World} {ad : Addr} {l : List Nat} (hr : Fls false 0 Hh w (some ad) l) : ∀ j u, (l.map fl)[j]? = some u → w.cell? (ad.add j) = some u := by
  intro j u hj
  rw [List.getElem?_map] at hj
  obtain ⟨z, hz, rfl⟩ := Option.map_eq_some_iff.1 hj
  obtain ⟨b, o, e, _, _, hc, _⟩ := hr j z hz
  injection e with e
  subst e
  rw [Addr.add_lit]; exact hc
theorem fl_one (l : List Nat) : ∀ u ∈ l.map fl, u.oneCell' = true := by
  intro u hu
  obtain ⟨z, _, rfl⟩ := List.mem_map.1 hu
  rfl
theorem wpList_fl {ops : Array Oper} {rest : List Oper} {o : Oper} {a : Act} {Q : Exit → Act → World → Prop} (w : World) (hgd : o.guard = none) (s x : Operand) (ho : o.op = .call { callee := .builtin .append, args := #[s, x], argTypes := #[25, 25] })
    (B n Hh : Nat) (v : Value) (xs : List Value) (hs : a.eval s = v) (hown : w.ownsRow B 26 1 v n xs) (ad : Addr) (m c : Nat) (l : List Nat) (hm : l.length = m) (hx : a.eval x = .slice (some ad) m c) (hr : Fls false 0 Hh w (some ad) l) (hlen : n + m ≤ 1000000) (hB : B ≤ w.heap.size)
    (h : ∀ v' w', w'.ownsRow B 26 1 v' (n + m) (xs ++ l.map fl) → w.grownBy w' v.ownBlock → (v' = .slice none 0 0 ↔ v = .slice none 0 0 ∧ m = 0) → wpList Try.prog ops Q rest (a.put o.dst v') w') : wpList Try.prog ops Q (o :: rest) a w := by
  obtain ⟨i0, hi, hz0, hz1, hz2⟩ := info_parts info22
  exact wpList_plain hgd fun _ hK => wp_append_own w s x 25 ho B 26 i0 (.float .f64 0) 1 8 Try.underlying25 hi hz0 hz1 hz2 rfl (by decide) v n xs hs hown ad m c (l.map fl) hx (by simp; omega) (fl_news hr) (fl_one l) (by unfold maxLen; omega) (by omega) hB fun v' w' h2 h3 h4 => hK _ _ (h v' w' h2 h3 h4)
theorem isI_500 : Ie.IsI 4647503709213818880 500 := Ie.of_int (n := 500) (by decide) (by decide)
theorem isI_250000 : Ie.IsI 4687829947429945344 250000 := Ie.of_int (n := 250000) (by decide) (by decide)

set_option maxRecDepth 10000 in
set_option maxHeartbeats 6400000 in
theorem lawSy {W : World} (a : Option Addr) (cap : Nat) (zs : List Int) (hm : zs.length ≤ maxLen) (hz : a = none → cap = 0) (hr : Row false 0 W.heap.size W a zs) :
    Calls Try.prog 3 #[.slice a zs.length cap] W fun e w' => e = .returned (.bool true) ∧ Below W.heap.size W w' := by
  have hr' := hide hr
  have hz' := hide hz
  clear hr hz
  by_cases hbig : (4096 : Int) < zs.length
  · have hb' := hide (decide_eq_true hbig)
    clear hbig
    go_enter Try.func3, Try.ntmps3
    go_wp2_with fail
    refine (big_any a zs.length cap true _ (unhide hb')).mono ?_
    rintro e w0 ⟨rfl, hw0⟩
    have hw1 := hw0.symm
    subst hw1
    go_wp2
    go_ret
    exact ⟨rfl, Below.refl _ _⟩
  have hb' := hide (decide_eq_false hbig)
  have hl : zs.length ≤ 4096 := by omega
  obtain ⟨len, hlen⟩ : ∃ len, zs.length = len := ⟨_, rfl⟩
  have hlen' := hide hlen
  have hpk := hide (fun (m : Int) (w : World) (h0 : 0 < m) (h : Row false 0 w.heap.size w a zs) => pick_any a cap zs m w (by omega) h0 h)
  have hpk2 := hide (fun (g c : Nat) (x m : Int) (w : World) (x0 : 0 ≤ x ∧ x ≤ 255) (h0 : 0 < m) (ho : w.ownsRow W.heap.size 5 1 (.slice (some ⟨g, 0, none⟩) (1 + len) c) (1 + len) ([u8 x] ++ zs.map u8)) => by
    have hrow : Row false 0 w.heap.size w (some ⟨g, 0, none⟩) (x :: zs) := by
      refine ((row_of_own (zs := x :: zs) (B := W.heap.size) (n := 1 + len) (cap := c) ho ?_).read.mono (Nat.zero_le _) (own_lt ho))
      intro z hz
      rcases List.mem_cons.1 hz with rfl | hz
      · exact x0
      · exact (unhide hr').bd z hz
    have h := pick_any (some ⟨g, 0, none⟩) c (x :: zs) m w (by simp; omega) h0 hrow
    have e : (x :: zs).length = 1 + len := by simp; omega
    rw [e] at h
    exact h)
  rw [hlen] at hl hb' hpk hm ⊢
  clear hbig hlen
  go_enter Try.func3, Try.ntmps3
  go_wp2_with fail
  refine (big_any a len cap false _ (unhide hb')).mono ?_
  rintro e w0 ⟨rfl, hw0⟩
  have hw1 := hw0.symm
  subst hw1
  clear hb'
  go_wp2_with fail
  refine (unhide hpk 30 _ (by omega) (unhide hr')).mono ?_
  rintro e w1 ⟨x1, rfl, x10, x11, hw1⟩
  have hw2 := hw1.symm
  subst hw2
  obtain ⟨N, hN⟩ : ∃ N : Nat, 5 + x1 = N := ⟨(5 + x1).toNat, by omega⟩
  have N0 : 5 ≤ N := by omega
  have N1 : N ≤ 34 := by omega
  obtain rfl : x1 = (N : Int) - 5 := by omega
  clear hN x10 x11
  have kX := (Below.refl W.heap.size W).alloc (Nat.le_refl _) (.cells #[.int .u8 1] 5)
  have oX := hide (lit_own W 1 (B := W.heap.size) (Nat.le_refl _))
  have rX := hide ((unhide hr').belowW kX)
  go_wp2_with (at_builtin; refine wpList_bytesO _ rfl _ _ rfl W.heap.size 1 (W.alloc (.cells #[.int .u8 1] 5)).heap.size (.slice (some ⟨W.heap.size, 0, none⟩) 1 1) [u8 1] rfl (unhide oX) a len cap zs (unhide hlen') rfl (unhide rX) (unhide hz') (by omega) (by simp) ?_)
  intro v2 w2 own2 gr2 _
  obtain ⟨g2, c2, rfl, hg2⟩ := own_some own2 (by omega)
  have B2 := hide (kX.grown gr2 (by simp) (fun k hk => by have e : W.heap.size = k := Option.some.inj hk; omega))
  have o2 := hide own2
  clear own2 gr2 kX oX rX
  have e5 : (5 : Int) + ((N : Int) - 5) = N := by omega
  go_wp2_with fail
  rw [e5]
  refine (unhide hpk2 g2 c2 1 ((N : Int) - 2) _ (by omega) (by omega) (unhide o2)).mono ?_
  rintro e w3 ⟨x2, rfl, x20, x21, hw3⟩
  have hw4 := hw3.symm
  subst hw4
  obtain ⟨P, hP⟩ : ∃ P : Nat, 1 + x2 = P := ⟨(1 + x2).toNat, by omega⟩
  obtain rfl : x2 = (P : Int) - 1 := by omega
  have P0 : 1 ≤ P := by omega
  have P1 : P + 1 < N := by omega
  have e6 : (1 : Int) + ((P : Int) - 1) = P := by omega
  clear hP x20 x21 o2
  have s2 := (unhide B2).size
  have kX := (Below.refl w2.heap.size w2).alloc (Nat.le_refl _) (.cells #[.int .u8 2] 5)
  have oX := hide (lit_own w2 2 (B := W.heap.size) s2)
  have BX := hide ((unhide B2).trans (kX.mono s2))
  have rX := hide ((unhide hr').belowW (unhide BX))
  go_wp2_with (at_builtin; refine wpList_bytesO _ rfl _ _ rfl W.heap.size 1 (w2.alloc (.cells #[.int .u8 2] 5)).heap.size (.slice (some ⟨w2.heap.size, 0, none⟩) 1 1) [u8 2] rfl (unhide oX) a len cap zs (unhide hlen') rfl (unhide rX) (unhide hz') (by omega) (unhide BX).size ?_)
  intro v4 w4 own4 gr4 _
  obtain ⟨g4, c4, rfl, hg4⟩ := own_some own4 (by omega)
  have B4 := hide ((unhide BX).grown gr4 (unhide BX).size (fun k hk => by have e : w2.heap.size = k := Option.some.inj hk; omega))
  have o4 := hide own4
  clear own4 gr4 kX oX rX BX B2
  go_wp2_with fail
  skip
  refine (unhide hpk2 g4 c4 2 20 _ (by omega) (by omega) (unhide o4)).mono ?_
  rintro e w5 ⟨x3, rfl, x30, x31, hw5⟩
  have hw6 := hw5.symm
  subst hw6
  obtain ⟨D, rfl⟩ : ∃ D : Nat, x3 = D := ⟨x3.toNat, by omega⟩
  have D1 : D < 20 := by omega
  clear x30 x31 o4
  have s4 := (unhide B4).size
  obtain ⟨i0, hi, hz0, hz1, hz2⟩ := info_parts info22
  go_wp2_with (refine wpList_make_full _ rfl _ _ 25 rfl W.heap.size 26 i0 (.float .f64 0) 1 Try.underlying25 hi hz0 hz1 .i64 .i64 _ _ N rfl rfl rfl rfl ?b2 ?b3 s4 ?_)
  case b2 => rw [hz2]; omega
  case b3 => unfold maxLen; omega
  intro w6 own6 gr6
  have b6 : Below w4.heap.size w4 w6 := (Below.refl _ _).grown gr6 (Nat.le_refl _) (fun k hk => by cases hk)
  have own6' : w6.ownsRow W.heap.size 26 1 (.slice (some ⟨w4.heap.size, 0, none⟩) N N) N ((List.replicate N (0 : Nat)).map fl) := by
    rw [toList_madeCells_one] at own6; simpa [fl] using own6
  obtain ⟨G, hG⟩ : ∃ G, w4.heap.size = G := ⟨_, rfl⟩
  rw [hG] at own6' ⊢
  have S6 := hide (show FS W w6 G N N (List.replicate N 0) ∧ Ints (List.replicate N 0) (List.replicate N 0) ∧ Low (List.replicate N 0) from ⟨⟨own6', (unhide B4).trans (b6.mono s4)⟩, ints_zero N, low_zero N⟩)
  clear own6 own6' gr6 b6 hG B4 s4 s2
  go_wp2
  go_loopw [7] (fun t wr => ∃ (i : Nat) (l : List Nat) (A : List Int), i ≤ N ∧ t = .int .i64 i ∧ Hid (FS W wr G N N l ∧ Ints l A ∧ Low A)) (fun t _ => N - (intOf t).toNat)
  case atStart => exact ⟨0, _, _, by omega, rfl, S6⟩
  case round =>
    clear S6
    obtain ⟨i, l, A, hi, rfl, hS⟩ := hrel
    by_cases hlt : i < N
    · have hlt' : decide ((i : Int) < N) = true := by rw [decide_eq_true_iff]; omega
      have s2 := (unhide hS).1.b.size
      have kX := (Below.refl wr.heap.size wr).alloc (Nat.le_refl _) (.cells #[.int .u8 (i : Int)] 5)
      have oX := hide (lit_own wr (i : Int) (B := W.heap.size) s2)
      have SX := hide ((unhide hS).1.later kX)
      have rX := hide ((unhide hr').belowW (unhide SX).b)
      go_wp2_with (at_builtin; refine wpList_bytesO _ rfl _ _ rfl W.heap.size 1 (wr.alloc (.cells #[.int .u8 (i : Int)] 5)).heap.size (.slice (some ⟨wr.heap.size, 0, none⟩) 1 1) [u8 i] rfl (unhide oX) a len cap zs (unhide hlen') rfl (unhide rX) (unhide hz') (by omega) (unhide SX).b.size ?_)
      intro v4 w4 own4 gr4 _
      obtain ⟨g4, c4, rfl, hg4⟩ := own_some own4 (by omega)
      have b4 : Below wr.heap.size wr w4 := kX.grown gr4 (by simp) (fun k hk => by have e : wr.heap.size = k := Option.some.inj hk; omega)
      have S4 := hide ((unhide hS).1.later b4)
      have hI := hide (unhide hS).2
      have o4 := hide own4
      clear own4 gr4 kX oX rX SX b4 hS
      go_wp2_with fail
      refine (unhide hpk2 g4 c4 (i : Int) 3 _ (by omega) (by omega) (unhide o4)).mono ?_
      rintro e w5 ⟨x3, rfl, x30, x31, hw5⟩
      have hw6 := hw5.symm
      subst hw6
      obtain ⟨⟨z, hzc⟩, hzf⟩ := (unhide S4).cell hlt
      clear o4
      go_wp2
      go_roundw
      case rel =>
        have hx : Ie.IsI (FloatKind.f64.nearest (x3 - 1)) (x3 - 1) := Ie.of_int (by omega) (by omega)
        exact ⟨i + 1, _, _, by omega, by go_num, hide ⟨(unhide S4).set i _, (unhide hI).1.set (by rw [(unhide S4).ln]; exact hlt) hx, (unhide hI).2.set (by rw [← (unhide hI).1.1, (unhide S4).ln]; exact hlt) (by omega) (by omega)⟩⟩
      case measure => simp [intOf]; omega
    · have hlt' : decide ((i : Int) < N) = false := by rw [decide_eq_false_iff_not]; omega
      obtain ⟨⟨z, hzc⟩, hzf⟩ := (unhide hS).1.cell (k := P) (by omega)
      have hlN := (unhide hS).1.ln
      have hlA := (unhide hS).2.1.1
      have S1 := (unhide hS).1.set P 4647503709213818880
      have I1 := (unhide hS).2.1.set (k := P) (by omega) isI_500
      have K1 := (unhide hS).2.2.peak (P := P) (by omega)
      have hl1 : (l.set P 4647503709213818880).length = N := by rw [List.length_set]; exact hlN
      have hA1 : (A.set P 500).length = N := by rw [List.length_set]; omega
      generalize l.set P 4647503709213818880 = l1 at *
      generalize A.set P 500 = A1 at *
      have I2 := ints_app I1 D
      have K2 := peak_app K1 D
      have hm1 : (List.replicate D 0 ++ l1).length = D + N := by rw [List.length_append, List.length_replicate, hl1]
      obtain ⟨m1, hm1e⟩ : ∃ m1, List.replicate D 0 ++ l1 = m1 := ⟨_, rfl⟩
      rw [hm1e] at I2 hm1
      generalize List.replicate D 0 ++ A1 = B1 at *
      have sy1 := hide (fun r (h : SyV l1 m1 20 r) => sync_int I1 I2 K1 K2 (by omega) (by omega) (by omega) (by omega) h)
      have sy2 := hide (fun r (h : SyV m1 l1 20 r) => sync_int I2 I1 K2 K1 (by omega) (by omega) (by omega) (by omega) h)
      have sy3 := hide (fun r (h : SyV l1 l1 20 r) => sync_int I1 I1 K1 K1 (by omega) (by omega) (by omega) (by omega) h)
      have ag1 := hide (fun v (h : AgV l1 l1 0 v) => (⟨agv_int I1 I1 K1 K1 (by omega) (by omega) (by omega) (by omega) h, by have := Sn.cor_self K1 A1.length (Nat.le_refl _); rw [if_pos K1.1] at this; exact this⟩ : Ie.IsI v (Sn.cor A1 A1 0 A1.length) ∧ 250000 ≤ Sn.cor A1 A1 0 A1.length))
      have hm1e' := hide hm1e
      have S1' := hide S1
      have s1 : W.heap.size ≤ (wr.setCell ⟨G, P, none⟩ (.float .f64 4647503709213818880)).heap.size := S1.b.size
      clear hS S1 I1 I2 K1 K2 hm1e hlN hlA hA1 hpk hpk2
      obtain ⟨i0, hi0, hz0, hz1, hz2⟩ := info_parts info22
      go_wp2_with (refine wpList_make_full _ rfl _ _ 25 rfl W.heap.size 26 i0 (.float .f64 0) 1 Try.underlying25 hi0 hz0 hz1 .i64 .i64 _ _ D rfl rfl rfl rfl ?b2 ?b3 s1 ?_)
      case b2 => rw [hz2]; omega
      case b3 => unfold maxLen; omega
      intro w8 own8 gr8
      obtain ⟨X, hX⟩ : ∃ X, X = wr.setCell ⟨G, P, none⟩ (.float .f64 4647503709213818880) := ⟨_, rfl⟩
      have hXs : X.heap.size = wr.heap.size := by rw [hX]; simp
      rw [← hX] at gr8 S1' s1
      have b8 : Below X.heap.size X w8 := (Below.refl _ _).grown gr8 (Nat.le_refl _) (fun k hk => by cases hk)
      have own8' : w8.ownsRow W.heap.size 26 1 (.slice (some ⟨wr.heap.size, 0, none⟩) D D) D ((List.replicate D (0 : Nat)).map fl) := by
        rw [toList_madeCells_one] at own8; simpa [fl] using own8
      have S8 := hide ((unhide S1').later b8)
      have o8 := hide own8'
      have b8' := hide b8
      have hGX : G < X.heap.size := own_lt (unhide S1').o
      clear own8 own8' gr8 b8 hX hzc hzf
      go_wp2_with (at_builtin; refine wpList_fl _ rfl _ _ rfl W.heap.size D w8.heap.size (.slice (some ⟨wr.heap.size, 0, none⟩) D D) ((List.replicate D (0 : Nat)).map fl) rfl (unhide o8) ⟨G, 0, none⟩ N N l1 hl1 rfl (unhide S8).fls (by omega) (unhide S8).b.size ?_)
      intro v9 w9 own9 gr9 _
      obtain ⟨g9, c9, rfl, hg9⟩ := own_some own9 (by omega)
      have b9 : Below X.heap.size X w9 := (unhide b8').grown gr9 (unhide b8').size (fun k hk => by have e : wr.heap.size = k := Option.some.inj hk; omega)
      have S9 := hide ((unhide S1').later b9)
      have F9 := hide (show FS W w9 g9 (D + N) c9 m1 from ⟨by rw [← unhide hm1e', List.map_append, List.map_replicate]; exact own9, (unhide S9).b⟩)
      clear own9 gr9 b9 S8 o8 b8' S1' hm1e'
      have c1 := hide (fun (w : World) (h1 : Fls false 0 w.heap.size w (some ⟨G, 0, none⟩) l1) (h2 : Fls false 0 w.heap.size w (some ⟨g9, 0, none⟩) m1) => isync_any (some ⟨G, 0, none⟩) (some ⟨g9, 0, none⟩) N c9 l1 m1 20 w (by omega) (by omega) h1 h2)
      have c2 := hide (fun (w : World) (h1 : Fls false 0 w.heap.size w (some ⟨G, 0, none⟩) l1) (h2 : Fls false 0 w.heap.size w (some ⟨g9, 0, none⟩) m1) => isync_any (some ⟨g9, 0, none⟩) (some ⟨G, 0, none⟩) c9 N m1 l1 20 w (by omega) (by omega) h2 h1)
      have c3 := hide (fun (w : World) (h1 : Fls false 0 w.heap.size w (some ⟨G, 0, none⟩) l1) => isync_any (some ⟨G, 0, none⟩) (some ⟨G, 0, none⟩) N N l1 l1 20 w (by omega) (by omega) h1 h1)
      have c4 := hide (fun (w : World) (h1 : Fls false 0 w.heap.size w (some ⟨G, 0, none⟩) l1) => iagree_any (some ⟨G, 0, none⟩) (some ⟨G, 0, none⟩) N N l1 l1 0 w (by omega) (by omega) h1 h1)
      rw [hl1, hm1] at c1 c2
      rw [hl1] at c3 c4
      go_wp2_with fail
      refine (unhide c1 _ (unhide S9).fls (unhide F9).fls).mono ?_
      rintro e u1 ⟨r1, rfl, hr1, b1⟩
      obtain rfl : r1 = (D : Int) := by have := unhide sy1 r1 hr1; omega
      have T1 := hide ((unhide S9).later b1)
      have E1 := hide ((unhide F9).later b1)
      have d1 : ((D : Int) == D) = true := by simp
      clear hr1 b1 S9 F9 c1 sy1
      go_wp2_with fail
      refine (unhide c2 _ (unhide T1).fls (unhide E1).fls).mono ?_
      rintro e u2 ⟨r2, rfl, hr2, b2⟩
      obtain rfl : r2 = -(D : Int) := by have := unhide sy2 r2 hr2; omega
      have T2 := hide ((unhide T1).later b2)
      have d2 : ((-(D : Int)) == -(D : Int)) = true := by simp
      clear hr2 b2 T1 E1 c2 sy2
      go_wp2_with fail
      refine (unhide c3 _ (unhide T2).fls).mono ?_
      rintro e u3 ⟨r3, rfl, hr3, b3⟩
      obtain rfl : r3 = 0 := by have := unhide sy3 r3 hr3; omega
      have T3 := hide ((unhide T2).later b3)
      clear hr3 b3 T2 c3 sy3
      go_wp2_with fail
      refine (unhide c4 _ (unhide T3).fls).mono ?_
      rintro e u4 ⟨v4, rfl, hv4, b4⟩
      have T4 := hide ((unhide T3).later b4)
      obtain ⟨q1, q2⟩ := unhide ag1 v4 hv4
      have o1 := order_int q1 isI_250000
      generalize Sn.cor A1 A1 0 A1.length = C at q2 o1
      have o2 : FloatKind.f64.format.order v4 4687829947429945344 = some .eq ∨ FloatKind.f64.format.order v4 4687829947429945344 = some .gt := by
        have e : FloatKind.f64.format.order v4 4687829947429945344 = some (if C < 250000 then Ordering.lt else if C = 250000 then Ordering.eq else Ordering.gt) := o1
        rw [e, if_neg (by omega)]
        by_cases hC : C = 250000
        · left; rw [if_pos hC]
        · right; rw [if_neg hC]
      clear hv4 b4 q1 q2 o1 T3 c4 ag1
      rcases o2 with o2 | o2
      all_goals (
        go_wp2
        go_ret
        exact ⟨rfl, (unhide T4).b⟩)

end Go.Proofs.Ytbmhllphpphmeaa
