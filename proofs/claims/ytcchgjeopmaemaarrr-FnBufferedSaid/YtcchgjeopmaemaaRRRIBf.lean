/-
  Contracts of the program's Buffer; nothing that was there is written.
-/
import Derived.Test.YtcchgjeopmaemaaRRRAp
import Derived.Test.YtcchgjeopmaemaaRRRBuP
namespace Go.Proofs.YtcchgjeopmaemaaRRR
open Go.RowKit
set_option linter.unusedVariables false
set_option linter.unusedSimpArgs false

set_option maxHeartbeats 1600000 in
theorem szok_any (a : Option Addr) (cap : Nat) (l : List Int) (v : Bool) (w : World) (hl : l.length ≤ maxLen) (hk : Ins w a l) (hv : v = true ↔ ((∀ x ∈ l, Fr7 x) ∧ l.length ≤ 1000)) :
    Calls Try.prog 35 #[.slice a l.length cap] w fun e w' => e = .returned (.bool v) ∧ w' = w := by
  have hk' := hide hk
  have hv' := hide hv
  clear hk hv
  unfold maxLen at hl
  go_enter Try.func35, Try.ntmps35
  go_wp2
  go_loop [7] (fun t => ∃ k : Nat, k ≤ l.length ∧ t = .int .i64 k ∧ Hid (NsPre Fr7 l k)) (fun t => l.length - (intOf t).toNat)
  case atStart => exact ⟨0, by omega, rfl, hide (NsPre.zero _ l)⟩
  case round =>
    obtain ⟨k, hk, rfl, hA⟩ := hrel
    by_cases hlt : k < l.length
    · obtain ⟨b, o, x, rfl, hx, hbl, c0⟩ := ins_at (unhide hk') (Below.refl _ _) hlt
      have hx' := hide hx
      clear hx hbl
      by_cases f0 : Fr7 x
      · have hS := hide ((fr7_b x).symm.trans (decide_eq_true f0))
        have hnew := hide ((unhide hA).step (unhide hx') f0)
        clear f0 hA
        go_wp2_with fail
        refine (ifr_any x true _ (unhide hS)).mono ?_
        rintro e w1 ⟨rfl, hw0⟩
        have hw1 := hw0.symm
        subst hw1
        go_wp2
        go_round
        case rel => exact ⟨k + 1, by omega, by go_num, hnew⟩
        case measure => simp [intOf]; omega
      · have hS := hide ((fr7_b x).symm.trans (decide_eq_false f0))
        have hno : v = false := by cases v with | false => rfl | true => exact absurd (((unhide hv').1 rfl).1 x (List.mem_of_getElem? (unhide hx'))) f0
        subst hno
        clear f0 hA
        go_wp2_with fail
        refine (ifr_any x false _ (unhide hS)).mono ?_
        rintro e w1 ⟨rfl, hw0⟩
        have hw1 := hw0.symm
        subst hw1
        go_wp2
        go_ret
        exact ⟨rfl, rfl⟩
    · have hke : k = l.length := by omega
      have hall : Hid (∀ x ∈ l, Fr7 x) := hide (NsPre.all (by have := unhide hA; rw [hke] at this; exact this))
      clear hA
      by_cases h1 : l.length ≤ 1000
      · have hyes : v = true := (unhide hv').2 ⟨unhide hall, h1⟩
        subst hyes
        have g1 : decide ((l.length : Int) ≤ 1000) = true := by simp; omega
        go_wp2
        go_ret
        exact ⟨rfl, rfl⟩
      · have hno : v = false := by cases v with | false => rfl | true => exact absurd ((unhide hv').1 rfl).2 h1
        subst hno
        have g1 : decide ((l.length : Int) ≤ 1000) = false := by simp; omega
        go_wp2
        go_ret
        exact ⟨rfl, rfl⟩

theorem fl_b (x : Int) (v : Bool) (h : v = true ↔ (1 ≤ x ∧ x ≤ 10000000)) : (decide (1 ≤ x) && decide (x ≤ 10000000)) = v := by
  cases v
  · have : ¬ (1 ≤ x ∧ x ≤ 10000000) := fun k => by have := h.2 k; cases this
    simp; intro k; omega
  · have := h.1 rfl; simp [this]

theorem an_nil (w : World) : AnI w [] (.returned (.slice (some ⟨w.heap.size, 0, none⟩) 0 0)) (w.alloc (.cells #[] 2)) :=
  ⟨_, _, rfl, Nat.le_refl _, ownI_lit0 w (Nat.le_refl _), (Below.refl _ _).alloc (Nat.le_refl _) _⟩

set_option maxHeartbeats 3200000 in
theorem ibuf_any (a : Option Addr) (cap : Nat) (l : List Int) (r m : Int) (w : World) (hl : l.length ≤ maxLen) (hk : Ins w a l) :
    Calls Try.prog 15 #[.slice a l.length cap, .int .i64 r, .int .i64 m] w (AnI w (bufOf l r m)) := by
  have hk' := hide hk
  have hl' := hide hl
  clear hk
  by_cases h1 : (∀ x ∈ l, Fr7 x) ∧ l.length ≤ 1000
  rotate_left
  · rw [buf_no (fun h => h1 h.1)]
    have h1' := hide h1
    clear h1
    go_enter Try.func15, Try.ntmps15
    go_wp2_with fail
    refine (szok_any a cap l false _ (unhide hl') (unhide hk') ⟨(fun h => by cases h), fun h => absurd h (unhide h1')⟩).mono ?_
    rintro e w1 ⟨rfl, hw0⟩
    have hw1 := hw0.symm
    subst hw1
    go_wp2
    go_ret
    exact an_nil w
  by_cases h2 : 1 ≤ r ∧ r ≤ 10000000
  rotate_left
  · rw [buf_no (fun h => h2 h.2.1)]
    have h1' := hide h1
    have h2' := hide (fl_b r false ⟨(fun h => by cases h), fun h => absurd h h2⟩)
    clear h1 h2
    go_enter Try.func15, Try.ntmps15
    go_wp2_with fail
    refine (szok_any a cap l true _ (unhide hl') (unhide hk') ⟨fun _ => unhide h1', fun _ => rfl⟩).mono ?_
    rintro e w1 ⟨rfl, hw0⟩
    have hw1 := hw0.symm
    subst hw1
    go_wp2_with fail
    refine (ifl_any r false _ (unhide h2')).mono ?_
    rintro e w1 ⟨rfl, hw0⟩
    have hw1 := hw0.symm
    subst hw1
    go_wp2
    go_ret
    exact an_nil w
  by_cases h3 : 1 ≤ m ∧ m ≤ 10000000
  rotate_left
  · rw [buf_no (fun h => h3 h.2.2)]
    have h1' := hide h1
    have h2' := hide (fl_b r true ⟨fun _ => h2, fun _ => rfl⟩)
    have h3' := hide (fl_b m false ⟨(fun h => by cases h), fun h => absurd h h3⟩)
    clear h1 h2 h3
    go_enter Try.func15, Try.ntmps15
    go_wp2_with fail
    refine (szok_any a cap l true _ (unhide hl') (unhide hk') ⟨fun _ => unhide h1', fun _ => rfl⟩).mono ?_
    rintro e w1 ⟨rfl, hw0⟩
    have hw1 := hw0.symm
    subst hw1
    go_wp2_with fail
    refine (ifl_any r true _ (unhide h2')).mono ?_
    rintro e w1 ⟨rfl, hw0⟩
    have hw1 := hw0.symm
    subst hw1
    go_wp2_with fail
    refine (ifl_any m false _ (unhide h3')).mono ?_
    rintro e w1 ⟨rfl, hw0⟩
    have hw1 := hw0.symm
    subst hw1
    go_wp2
    go_ret
    exact an_nil w
  rw [buf_yes ⟨h1, h2, h3⟩]
  have h1' := hide h1
  have h2' := hide (fl_b r true ⟨fun _ => h2, fun _ => rfl⟩)
  have h3' := hide (fl_b m true ⟨fun _ => h3, fun _ => rfl⟩)
  have hbd := hide (bufR_bd h2.1 h3.1 h1.1)
  have hln := h1.2
  obtain ⟨r0, r1⟩ := h2
  obtain ⟨m0, m1⟩ := h3
  obtain ⟨i0, hi, hz0, hz1, hz2⟩ := info_parts infoI
  clear h1 hl
  go_enter Try.func15, Try.ntmps15
  go_wp2_with fail
  refine (szok_any a cap l true _ (unhide hl') (unhide hk') ⟨fun _ => unhide h1', fun _ => rfl⟩).mono ?_
  rintro e w1 ⟨rfl, hw0⟩
  have hw1 := hw0.symm
  subst hw1
  go_wp2_with fail
  refine (ifl_any r true _ (unhide h2')).mono ?_
  rintro e w1 ⟨rfl, hw0⟩
  have hw1 := hw0.symm
  subst hw1
  go_wp2_with fail
  refine (ifl_any m true _ (unhide h3')).mono ?_
  rintro e w1 ⟨rfl, hw0⟩
  have hw1 := hw0.symm
  subst hw1
  go_wp2_with (refine wpList_make_own _ rfl _ _ 24 rfl w.heap.size 2 i0 (.int .i64 0) 1 Try.underlying24 hi hz0 hz1 .i64 .i64 _ l.length rfl rfl rfl ?b2 ?b3 (Nat.le_refl _) ?_)
  case b2 => rw [hz2]; omega
  case b3 => unfold maxLen; omega
  intro w1 hown hg
  have hb1 := hide ((Below.refl w.heap.size w).grown hg (Nat.le_refl _) (fun k hk => by cases hk))
  have ho1 : Hid (OwnI w1 w.heap.size w.heap.size 0 l.length []) := hide hown
  clear hown hg
  go_wp2
  go_loopw [7, 8, 31] (fun s q t wr => ∃ (k g c : Nat) (F : Int) (L : List Int), k ≤ l.length ∧ t = .int .i64 k ∧ q = .int .i64 F ∧ s = .slice (some ⟨g, 0, none⟩) k c ∧ w.heap.size ≤ g ∧ 0 ≤ F ∧ F ≤ m ∧ Hid (bufR r m (l.take k) = (F, L)) ∧ Hid (OwnI wr w.heap.size g k c L) ∧ Hid (Below w.heap.size w wr)) (fun _ _ t _ => l.length - (intOf t).toNat)
  case atStart => exact ⟨0, _, _, m, [], by omega, rfl, rfl, rfl, Nat.le_refl _, by omega, by omega, hide rfl, ho1, hb1⟩
  case round =>
    clear ho1 hb1
    obtain ⟨k, g, c, F, L, hk, rfl, rfl, rfl, hg, F0, F1, hR, ho, hb⟩ := hrel
    have hs4 := (unhide hb).size
    by_cases hlt : k < l.length
    · obtain ⟨b, o, x, rfl, hx, hbl, c0⟩ := ins_at (unhide hk') (unhide hb) hlt
      have hx' := hide hx
      have hf := (unhide h1').1 x (List.mem_of_getElem? hx)
      obtain ⟨x0, x1⟩ := hf
      have hR2 := hide (show bufR r m (l.take (k + 1)) = bufS r m (F, L) x by rw [take_snocI hx, bufR_snoc, unhide hR])
      have hF := hide (unhide hbd (k + 1) (by omega))
      clear hx hbl
      by_cases hgt : F < x
      · have hd : decide (F < x) = true := decide_eq_true hgt
        have hR3 := hide (show bufR r m (l.take (k + 1)) = (min (F + r) m, L ++ [-1]) by rw [unhide hR2]; unfold bufS; rw [if_pos hgt])
        have hb2 : 0 ≤ min (F + r) m ∧ min (F + r) m ≤ m := by have := unhide hF; rw [unhide hR3] at this; exact this
        obtain ⟨y0, y1⟩ := hb2
        clear hR2 hF hR
        go_wp2_with (refine wpList_iA wr rfl _ _ rfl w.heap.size g k c L (-1) rfl (unhide ho) rfl (by omega) hs4 ?_)
        intro g' cap' w' hown' hbel' hg'
        have ho2 := hide hown'
        have hb3 := hide ((unhide hb).trans hbel')
        clear hown' hbel' ho hb
        go_wp2
        go_roundw
        case rel => exact ⟨k + 1, g', cap', _, _, by omega, by go_num, rfl, rfl, hg', y0, y1, hR3, ho2, hb3⟩
        case measure => simp [intOf]; omega
      · have hd : decide (F < x) = false := decide_eq_false hgt
        have hR3 := hide (show bufR r m (l.take (k + 1)) = (min (F - x + r) m, L ++ [min (F - x + r) m]) by rw [unhide hR2]; unfold bufS; rw [if_neg hgt])
        have hb2 : 0 ≤ min (F - x + r) m ∧ min (F - x + r) m ≤ m := by have := unhide hF; rw [unhide hR3] at this; exact this
        obtain ⟨y0, y1⟩ := hb2
        clear hR2 hF hR
        go_wp2_with (refine wpList_iA wr rfl _ _ rfl w.heap.size g k c L (min (F - x + r) m) rfl (unhide ho) rfl (by omega) hs4 ?_)
        intro g' cap' w' hown' hbel' hg'
        have ho2 := hide hown'
        have hb3 := hide ((unhide hb).trans hbel')
        clear hown' hbel' ho hb
        go_wp2
        go_roundw
        case rel => exact ⟨k + 1, g', cap', _, _, by omega, by go_num, rfl, rfl, hg', y0, y1, hR3, ho2, hb3⟩
        case measure => simp [intOf]; omega
    · have hke : k = l.length := by omega
      have hfin : Hid ((bufR r m l).2 = L) := hide (by have := unhide hR; rw [hke, List.take_length] at this; rw [this])
      have hLn : Hid (L.length = k) := hide (by rw [← unhide hfin, hke]; have := bufR_len r m l l.length (Nat.le_refl _); rw [List.take_length] at this; exact this)
      clear hR
      go_wp2
      go_ret
      rw [unhide hfin]
      exact AnI.mk (unhide hLn) hg (unhide ho) (unhide hb)

end Go.Proofs.YtcchgjeopmaemaaRRR
