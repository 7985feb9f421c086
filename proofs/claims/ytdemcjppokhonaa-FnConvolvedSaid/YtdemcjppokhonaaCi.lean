/-
  Contract of the program's Convolve: a new list of sums; nothing that was there is written.
-/
import Derived.Test.YtdemcjppokhonaaCv
import Derived.Test.YtdemcjppokhonaaMi
import Derived.Deep.RegionLaw
namespace Go.Proofs.Ytdemcjppokhonaa
open Go.RowKit
set_option linter.unusedVariables false
set_option linter.unusedSimpArgs false

theorem step_flA {ops : Array Oper} {o : Oper} {a : Act} {K : Act → World → Prop} {Q : Exit → Act → World → Prop} {E' : Prop} (w : World) (hgd : o.guard = none) (s x : Operand) (ho : o.op = .call { callee := .builtin .append, args := #[s, x], argTypes := #[24, 24] })
    (B g n cap : Nat) (L : List Nat) (v : Nat) (hs : a.eval s = .slice (some ⟨g, 0, none⟩) n cap) (hown : w.ownsRow B 25 1 (.slice (some ⟨g, 0, none⟩) n cap) n (L.map fl)) (hx : a.eval x = .slice (some ⟨w.heap.size, 0, none⟩) 1 1)
    (hl : n ≤ 1000000) (hB : B ≤ w.heap.size)
    (h : ∀ g' cap' w', w'.ownsRow B 25 1 (.slice (some ⟨g', 0, none⟩) (n + 1) cap') (n + 1) ((L ++ [v]).map fl) → Below B w w' → B ≤ g' → K (a.put o.dst (.slice (some ⟨g', 0, none⟩) (n + 1) cap')) w') :
    if Region.wanted o (yielded ops a.tmps) = true then Oper.wp Try.prog o a (w.alloc (.cells #[.float .f64 v] 25)) K Q else E' := by
  obtain ⟨i0, hi, hz0, hz1, hz2⟩ := info_parts info22
  have hb : Below w.heap.size w (w.alloc (.cells #[.float .f64 v] 25)) := (Below.refl _ _).alloc (Nat.le_refl _) _
  have hblk : (w.alloc (.cells #[.float .f64 v] 25)).heap[w.heap.size]? = some (.cells #[.float .f64 v] 25 (0, 0)) := heap_alloc_new w _
  have hnews := fl_news hblk
  have hsz := hb.size
  generalize w.alloc (.cells #[.float .f64 v] 25) = W at *
  have hown2 := ownsRow_below hown hb
  have hBg : B ≤ g := (hown.lt g rfl).1
  refine step_append_lies W hgd s x 24 ho B 25 i0 (.float .f64 0) 1 8 Try.underlying24 hi hz0 hz1 hz2 rfl (by decide) _ n (L.map fl) hs hown2 ⟨w.heap.size, 0, none⟩ 1 1 [fl v] hx rfl hnews (by intro y hy; simp at hy; subst hy; rfl) (by decide) (by unfold maxLen; omega) (by omega) (by omega) W.heap.size rfl ?_
  intro g' cap' w' h1 h2 h3 h4
  refine h g' cap' w' (by simpa using h1) ?_ (own_ge h1)
  exact (hb.mono hB).trans ((Below.refl _ _).grown h2 (by omega) (fun k hk => by simp [Value.ownBlock] at hk; omega))
theorem own_keepB {w w1 : World} {B B' g n m cap : Nat} {e : TypeId} {xs : List Value} (h : w.ownsRow B e m (.slice (some ⟨g, 0, none⟩) n cap) n xs) (hb : Below B' w w1) (hg : g < B') : w1.ownsRow B e m (.slice (some ⟨g, 0, none⟩) n cap) n xs := by
  obtain ⟨h1, h2⟩ := h
  refine ⟨h1, ?_⟩
  rcases h2 with h2 | ⟨g', cap', cur, hv, hB, hh, r⟩
  · exact Or.inl h2
  · refine Or.inr ⟨g', cap', cur, hv, hB, ?_, r⟩
    injection hv with e1
    injection e1 with e1
    injection e1 with e1
    subst e1
    rw [hb.block g hg]; exact hh
theorem own_cut0 {w : World} {B g n cap : Nat} {xs : List Value} (h : w.ownsRow B 25 1 (.slice (some ⟨g, 0, none⟩) n cap) n xs) : w.ownsRow B 25 1 (.slice (some ⟨g, 0, none⟩) 0 cap) 0 (([] : List Nat).map fl) := by
  obtain ⟨h1, h2⟩ := h
  rcases h2 with h2 | ⟨g', cap', cur, hv, hB, hh, hc, hm, hs, ht⟩
  · cases h2.1
  · injection hv with e1 e2 e3
    injection e1 with e1
    injection e1 with e1
    subst e1 e3
    exact ⟨rfl, .inr ⟨g, cap, cur, rfl, hB, hh, Nat.zero_le _, hm, hs, by simp⟩⟩
theorem cvS_low (l m : List Nat) (n : Nat) : ∀ k, k ≤ n + 1 - l.length → cvS l m n k = 0
  | 0, _ => rfl
  | k + 1, h => by
    show (if k ≤ n ∧ n - k < l.length then nv .add (cvS l m n k) (nv .mul (nth m k) (nth l (n - k))) else cvS l m n k) = 0
    rw [if_neg (by omega)]
    exact cvS_low l m n k (by omega)
theorem cvS_high (l m : List Nat) (n k : Nat) (h : n + 1 ≤ k) : ∀ d, cvS l m n (k + d) = cvS l m n k
  | 0 => rfl
  | d + 1 => by
    show (if k + d ≤ n ∧ n - (k + d) < l.length then nv .add (cvS l m n (k + d)) (nv .mul (nth m (k + d)) (nth l (n - (k + d)))) else cvS l m n (k + d)) = _
    rw [if_neg (by omega)]
    exact cvS_high l m n k h d
theorem cvS_end {l m : List Nat} {n k : Nat} (hk : k = min (n + 1) m.length) : cvS l m n k = cvE l m n := by
  unfold cvE
  by_cases h : m.length ≤ n + 1
  · rw [show k = m.length by omega]
  · have := cvS_high l m n (n + 1) (Nat.le_refl _) (m.length - (n + 1))
    rw [show n + 1 + (m.length - (n + 1)) = m.length by omega] at this
    rw [show k = n + 1 by omega, this]
theorem own_setm {w : World} {B g n k v : Nat} {L : List Nat} (hL : L.length = k) (hk : k < n) (h : w.ownsRow B 25 1 (.slice (some ⟨g, 0, none⟩) n n) n (midF L n)) : (w.setCell ⟨g, k, none⟩ (.float .f64 v)).ownsRow B 25 1 (.slice (some ⟨g, 0, none⟩) n n) n (midF (L ++ [v]) n) :=
  midF_own hL hk h (Below.refl _ _)

set_option maxHeartbeats 3200000 in
theorem icv_yes (a : Option Addr) (ca : Nat) (l : List Nat) (b : Option Addr) (cb : Nat) (m : List Nat) (w : World) (h1 : l.length ≠ 0) (h2 : m.length ≠ 0) (h3 : l.length + m.length - 1 ≤ 4096) (ha : Fls false 0 w.heap.size w a l) (hb : Fls false 0 w.heap.size w b m) :
    Calls Try.prog 18 #[.slice a l.length ca, .slice b m.length cb] w (Ans (cvE l m) (l.length + m.length - 1) w) := by
  have ha' := hide ha
  have hb' := hide hb
  clear ha hb
  obtain ⟨i0, hi, hz0, hz1, hz2⟩ := info_parts info22
  obtain ⟨N, hN⟩ : ∃ N, l.length + m.length - 1 = N := ⟨_, rfl⟩
  have hw1 : IntKind.i64.wrap ((l.length : Int) + (m.length : Int)) = (l.length : Int) + (m.length : Int) := by rw [IntKind.wrap_i64]; omega
  have hw2 : IntKind.i64.wrap ((l.length : Int) + (m.length : Int) - 1) = (N : Int) := by rw [IntKind.wrap_i64]; omega
  have t1 : ((l.length : Int) == 0) = false := beq_eq_false_iff_ne.2 (by omega)
  have t2 : ((m.length : Int) == 0) = false := beq_eq_false_iff_ne.2 (by omega)
  have t3 : decide ((4096 : Int) < (N : Int)) = false := decide_eq_false (by omega)
  have hN4 : N ≤ 4096 := by omega
  have hlN : l.length ≤ N + 1 := by omega
  have hmN : m.length ≤ N + 1 := by omega
  have hlm : N + 1 = l.length + m.length := by omega
  have hw3 : IntKind.i64.wrap ((m.length : Int) - 1) = (m.length : Int) - 1 := by rw [IntKind.wrap_i64]; omega
  rw [hN]
  clear hN h1 h2 h3
  go_enter Try.func18, Try.ntmps18
  go_wp2_with (refine wpList_make_full _ rfl _ _ 24 rfl w.heap.size 25 i0 (.float .f64 0) 1 Try.underlying24 hi hz0 hz1 .i64 .i64 _ _ N rfl rfl rfl rfl ?b2 ?b3 (Nat.le_refl _) ?_)
  case b2 => rw [hz2]; omega
  case b3 => unfold maxLen; omega
  intro w1 hown hg
  have hb1' := hide (show Below w.heap.size w w1 from (Below.refl _ _).grown hg (Nat.le_refl _) (fun k hk => by cases hk))
  have hown1 : Hid (w1.ownsRow w.heap.size 25 1 (.slice (some ⟨w.heap.size, 0, none⟩) N N) N (midF [] N)) := hide (by
    rw [toList_madeCells_one] at hown; simpa [fl, midF] using hown)
  have s1 := own_lt (unhide hown1)
  clear hown hg
  go_wp2_with (refine wpList_make_own _ rfl _ _ 24 rfl (w.heap.size + 1) 25 i0 (.float .f64 0) 1 Try.underlying24 hi hz0 hz1 .i64 .i64 _ m.length rfl rfl rfl ?b2 ?b3 (by omega) ?_)
  case b2 => rw [hz2]; omega
  case b3 => unfold maxLen; omega
  intro w2 hown hg
  have hb2' := hide (show Below w.heap.size w w2 from (unhide hb1').grown hg (by omega) (fun k hk => by cases hk))
  have hoS : Hid (w2.ownsRow w.heap.size 25 1 (.slice (some ⟨w.heap.size, 0, none⟩) N N) N (midF [] N)) := hide (ownsRow_below (unhide hown1) ((Below.refl _ _).grown hg (Nat.le_refl _) (fun k hk => by cases hk)))
  have hoT : Hid (w2.ownsRow (w.heap.size + 1) 25 1 (.slice (some ⟨w1.heap.size, 0, none⟩) 0 m.length) 0 (([] : List Nat).map fl)) := hide (by simpa using hown)
  have hgT : w.heap.size + 1 ≤ w1.heap.size := by omega
  generalize w1.heap.size = gt0 at *
  clear hown hg hown1 hb1'
  go_wp2
  go_loopw [6, 39] (fun s t wr => ∃ (n g cap nt : Nat) (L T : List Nat), n ≤ N ∧ t = .int .i64 n ∧ s = .slice (some ⟨g, 0, none⟩) nt cap ∧ Hid (wr.ownsRow (w.heap.size + 1) 25 1 (.slice (some ⟨g, 0, none⟩) nt cap) nt (T.map fl)) ∧ Hid (wr.ownsRow w.heap.size 25 1 (.slice (some ⟨w.heap.size, 0, none⟩) N N) N (midF L N)) ∧ Hid (Ls (cvE l m) n L) ∧ Hid (Below w.heap.size w wr)) (fun _ t _ => N - (intOf t).toNat)
  case atStart => exact ⟨0, _, _, 0, [], [], by omega, rfl, rfl, hoT, hoS, hide (Ls.nil _), hb2'⟩
  case round =>
    clear hoT hoS hb2' s1
    obtain ⟨n, g, cap, nt, L, T0, hk, rfl, rfl, hoT, hoS, hL, hw⟩ := hrel
    by_cases hlt : n < N
    · have s5 : decide ((n : Int) < (N : Int)) = true := decide_eq_true (by omega)
      have hoT0 := hide (own_cut0 (unhide hoT))
      obtain ⟨lo, hlo⟩ : ∃ lo, n + 1 - l.length = lo := ⟨_, rfl⟩
      obtain ⟨hi2, hhi⟩ : ∃ hi2, min (n + 1) m.length = hi2 := ⟨_, rfl⟩
      have hlohi : lo ≤ hi2 := by omega
      have hhi1 : hi2 ≤ m.length := by omega
      have hhi3 : hi2 ≤ n + 1 := by omega
      have hlo2 : ∀ k, lo ≤ k → k < hi2 → n - k < l.length := by intro k h1 h2; omega
      have w5 : IntKind.i64.wrap ((n : Int) - (l.length : Int)) = (n : Int) - (l.length : Int) := by rw [IntKind.wrap_i64]; omega
      have w6 : IntKind.i64.wrap ((n : Int) - (l.length : Int) + 1) = (n : Int) - (l.length : Int) + 1 := by rw [IntKind.wrap_i64]; omega
      have w7 : max (0 : Int) ((n : Int) - (l.length : Int) + 1) = (lo : Int) := by omega
      have w8 : min (n : Int) ((m.length : Int) - 1) = (hi2 : Int) - 1 := by omega
      have hS0 := hide (show cvS l m n lo = 0 from cvS_low l m n lo (by omega))
      have hSe := hide (show cvS l m n hi2 = cvE l m n from cvS_end hhi.symm)
      have hlo2' := hide hlo2
      have hcapT := hide hoT
      clear hlo hhi hlo2 hoT
      rename World => wo
      go_wp2
      go_loopw [6, 8] (fun s t wr => ∃ (k g cap : Nat) (T : List Nat), lo ≤ k ∧ k ≤ hi2 ∧ t = .int .i64 k ∧ s = .slice (some ⟨g, 0, none⟩) T.length cap ∧ Hid (T.length = k - lo) ∧ Hid (wr.ownsRow (w.heap.size + 1) 25 1 (.slice (some ⟨g, 0, none⟩) T.length cap) T.length (T.map fl)) ∧ Hid (sumV T = cvS l m n k) ∧ Hid (Below (w.heap.size + 1) wo wr)) (fun _ t _ => hi2 - (intOf t).toNat)
      case atStart => exact ⟨lo, g, cap, [], Nat.le_refl _, hlohi, rfl, rfl, hide (by simp), hoT0, hide ((unhide hS0).symm), hide (Below.refl _ _)⟩
      case round =>
        clear hoT0
        obtain ⟨k, g, cap, T, hk1, hk2, rfl, rfl, hTl, hoT, hs, hq⟩ := hrel
        have hwb := hide ((unhide hw).trans ((unhide hq).mono (Nat.le_succ _)))
        by_cases hlt2 : k < hi2
        · have hkm : k < m.length := by omega
          have hnl : n - k < l.length := unhide hlo2' k hk1 hlt2
          have hkn : k ≤ n := by omega
          obtain ⟨x, hx⟩ : ∃ x, m[k]? = some x := ⟨m[k], List.getElem?_eq_getElem hkm⟩
          obtain ⟨y, hy⟩ : ∃ y, l[n - k]? = some y := ⟨l[n - k], List.getElem?_eq_getElem hnl⟩
          have hstep : Hid (∀ u, Sm u (nv .mul x y) → sumV (T ++ [u]) = cvS l m n (k + 1)) := hide fun u hu => by
            show _ = (if k ≤ n ∧ n - k < l.length then nv .add (cvS l m n k) (nv .mul (nth m k) (nth l (n - k))) else cvS l m n k)
            rw [if_pos ⟨hkn, hnl⟩, nth_of hx, nth_of hy, sumV_snoc, unhide hs]
            exact nv_sm Sm.rfl hu
          obtain ⟨b1, o1, rfl, _, i1, c0, _⟩ := unhide ha' (n - k) y hy
          obtain ⟨b2, o2, rfl, _, i2, c2, _⟩ := unhide hb' k x hx
          have d0 : wr.cell? ⟨b1, o1 + (n - k), none⟩ = some (.float .f64 y) := by rw [(bcell (unhide hwb)).1 _ _ i1]; exact c0
          have d2 : wr.cell? ⟨b2, o2 + k, none⟩ = some (.float .f64 x) := by rw [(bcell (unhide hwb)).1 _ _ i2]; exact c2
          have e1 : IntKind.i64.wrap ((n : Int) - (k : Int)) = ((n - k : Nat) : Int) := by rw [IntKind.wrap_i64]; omega
          have e4 : decide ((k : Int) ≤ (hi2 : Int) - 1) = true := decide_eq_true (by omega)
          have hTN : T.length ≤ 1000000 := by rw [unhide hTl]; omega
          generalize hj : n - k = j at *
          have hj' := hide hj
          clear hx hy c0 c2 hs hj
          go_wp2_with fail
          go_region_law ((first
            | (go_simp
               go_at_call 42
               refine (rp_any x y _).mono ?_
               rintro e w6 ⟨v, rfl, hv, kb⟩
               have oT6 := hide (ownsRow_below (w := wr.drew) (unhide hoT) kb)
               have b6 := hide (laterB (W := wr) (w := wr.drew) ((Below.refl _ _).drew) kb)
               have sz6 := (unhide b6).size
               have hv' := hide hv
               have hBw : w.heap.size + 1 ≤ w6.heap.size := by have := own_ge (unhide oT6); have := own_lt (unhide oT6); omega
               clear hv kb)
            | (refine step_flA w6 (by rfl) _ _ (by rfl) (w.heap.size + 1) g T.length cap T v (by rfl) (unhide oT6) (by rfl) hTN hBw ?_
               intro g' cap' w' hown' hbel' hg')))
          all_goals (
            have hwrB : w.heap.size + 1 ≤ wr.heap.size := by have := own_ge (unhide hoT); have := own_lt (unhide hoT); omega
            have hown2 := hide (show w'.ownsRow (w.heap.size + 1) 25 1 (.slice (some ⟨g', 0, none⟩) (T ++ [v]).length cap') (T ++ [v]).length ((T ++ [v]).map fl) by simpa using hown')
            have hq2 := hide ((unhide hq).trans (((unhide b6).mono hwrB).trans hbel'))
            have hs2 := hide (unhide hstep v (unhide hv'))
            have hTl2 := hide (show (T ++ [v]).length = k + 1 - lo by rw [List.length_append, unhide hTl, List.length_singleton]; omega)
            have hLe : T.length + 1 = (T ++ [v]).length := by simp
            rw [hLe]
            clear hown' hbel' hoT hq b6 oT6 hv' hLe hstep hTl hTN
            generalize T ++ [v] = M at *
            go_wp2
            go_roundw
            case rel => exact ⟨k + 1, g', cap', M, by omega, by omega, by go_num, rfl, hTl2, hown2, hs2, hq2⟩
            case measure => simp [intOf]; omega)
        · have hke : k = hi2 := by omega
          have e4 : decide ((k : Int) ≤ (hi2 : Int) - 1) = false := decide_eq_false (by omega)
          have hsum := hide (show sumV T = cvE l m n by rw [unhide hs, hke]; exact unhide hSe)
          have hTN : T.length ≤ 1048576 := by rw [unhide hTl]; omega
          have hoS2 := hide (own_keepB (unhide hoS) (unhide hq) (by omega))
          clear hs
          go_wp2_with fail
          refine (sum_any _ cap T _ hTN (fls_ownB (unhide hoT))).mono ?_
          rintro e w6 ⟨v, rfl, hv, kb⟩
          have oS6 := hide (ownsRow_below (unhide hoS2) kb)
          have oT6 := hide (ownsRow_below (unhide hoT) kb)
          have b6 := hide (laterB (unhide hwb) kb)
          have hL2 := hide (show Ls (cvE l m) (n + 1) (L ++ [v]) from (unhide hL).snoc (by rw [← unhide hsum]; exact hv))
          obtain ⟨z0, zf⟩ := midF_cell (unhide hL).1 hlt (unhide oS6)
          have oS7 := hide (own_setm (v := v) (unhide hL).1 hlt (unhide oS6))
          have hgT2 := own_ge (unhide oT6)
          have oT7 := hide (show (w6.setCell ⟨w.heap.size, n, none⟩ (.float .f64 v)).ownsRow (w.heap.size + 1) 25 1 (.slice (some ⟨g, 0, none⟩) T.length cap) T.length (T.map fl) from own_kept (unhide oT6) (grown_set (grown_refl _ _)) (by omega))
          clear hv kb oS6 oT6 hsum hoS2 hoT hL hq hwb
          go_wp2
          go_roundw
          case rel => exact ⟨n + 1, g, cap, T.length, L ++ [v], T, by omega, by go_num, rfl, oT7, oS7, hL2, hide (Below.setCell (unhide b6) (Nat.le_refl _) _)⟩
          case measure => simp [intOf]; omega
    · have hke : n = N := by omega
      have s5 : decide ((n : Int) < (N : Int)) = false := decide_eq_false (by omega)
      have hfin : Hid (Ls (cvE l m) N L) := hide (by have := unhide hL; rw [hke] at this; exact this)
      have hoN := hide (show wr.ownsRow w.heap.size 25 1 (.slice (some ⟨w.heap.size, 0, none⟩) N N) N (L.map fl) by
        have := unhide hoS
        have e : midF L N = L.map fl := by unfold midF; rw [(unhide hfin).1]; simp
        rw [e] at this; exact this)
      clear hL hoS hoT
      subst hke
      go_wp2
      go_ret
      exact Ans.mk (Nat.le_refl _) (unhide hoN) (unhide hfin) (unhide hw)
end Go.Proofs.Ytdemcjppokhonaa
