/-
  Contract of the model's Buffer; nothing that was there is written.
-/
import Derived.Test.YtcchgjeopmaemaaRRRIBf
namespace Go.Proofs.YtcchgjeopmaemaaRRR
open Go.RowKit
set_option linter.unusedVariables false
set_option linter.unusedSimpArgs false

theorem ins_low {w : World} {a : Option Addr} {l : List Int} {b o : Nat} (hk : Ins w a l) (h : a = some ⟨b, o, none⟩) (hn : l ≠ []) : b < w.heap.size := by
  cases l with
  | nil => exact absurd rfl hn
  | cons x t =>
    obtain ⟨b', o', e, h1, _⟩ := hk 0 x rfl
    rw [h] at e
    injection e with e
    injection e with e1 e2
    omega
theorem ins_keep {W w w' : World} {a : Option Addr} {l : List Int} (hk : Ins w a l) (hlow : ∀ b o, a = some ⟨b, o, none⟩ → l ≠ [] → b < W.heap.size) (hb : Below W.heap.size w w') : Ins w' a l := by
  intro j x hx
  obtain ⟨b, o, e, h1, c0⟩ := hk j x hx
  have h2 := hlow b o e (by intro h; rw [h] at hx; simp at hx)
  exact ⟨b, o, e, Nat.lt_of_lt_of_le h1 hb.size, (hb.cell (p := ⟨b, o + j, none⟩) h2).trans c0⟩
set_option maxHeartbeats 3200000 in
theorem sbuf_any (a : Option Addr) (cap : Nat) (l : List Int) (r m : Int) (w : World) (hl : l.length ≤ maxLen) (hk : Ins w a l) :
    Calls Try.prog 16 #[.slice a l.length cap, .int .i64 r, .int .i64 m] w (AnI w (bufOf l r m)) := by
  unfold maxLen at hl
  have hb0 : Below w.heap.size w (w.alloc (.cells #[] 2)) := (Below.refl _ _).alloc (Nat.le_refl _) _
  have hk' := hide (hk.below hb0)
  have hlow := hide (show ∀ b o, a = some ⟨b, o, none⟩ → l ≠ [] → b < w.heap.size from fun b o h hn => ins_low hk h hn)
  have ho := hide (ownI_lit0 w (Nat.le_refl w.heap.size))
  have hb := hide hb0
  have hz : AnI w [] (.returned (.slice (some ⟨w.heap.size, 0, none⟩) 0 0)) (w.alloc (.cells #[] 2)) := an_nil w
  have hz' := hide hz
  clear hk hb0 hz
  by_cases h0 : 1000 < l.length
  · rw [buf_no (fun h => by have := h.1.2; omega)]
    have g0 : decide ((1000 : Int) < l.length) = true := by simp; omega
    go_enter Try.func16, Try.ntmps16
    go_wp2
    go_ret
    exact unhide hz'
  have g0 : decide ((1000 : Int) < l.length) = false := by simp; omega
  have hln : l.length ≤ 1000 := by omega
  clear h0 hl
  by_cases h2 : 1 ≤ r ∧ r ≤ 10000000
  rotate_left
  · rw [buf_no (fun h => h2 h.2.1)]
    have h2' := hide (fl_b r false ⟨(fun h => by cases h), fun h => absurd h h2⟩)
    clear h2
    go_enter Try.func16, Try.ntmps16
    go_wp2_with fail
    refine (in_any r 1 10000000 false _ (unhide h2')).mono ?_
    rintro e w1 ⟨rfl, hw0⟩
    have hw1 := hw0.symm
    subst hw1
    go_wp2
    go_ret
    exact unhide hz'
  by_cases h3 : 1 ≤ m ∧ m ≤ 10000000
  rotate_left
  · rw [buf_no (fun h => h3 h.2.2)]
    have h2' := hide (fl_b r true ⟨fun _ => h2, fun _ => rfl⟩)
    have h3' := hide (fl_b m false ⟨(fun h => by cases h), fun h => absurd h h3⟩)
    clear h2 h3
    go_enter Try.func16, Try.ntmps16
    go_wp2_with fail
    refine (in_any r 1 10000000 true _ (unhide h2')).mono ?_
    rintro e w1 ⟨rfl, hw0⟩
    have hw1 := hw0.symm
    subst hw1
    go_wp2_with fail
    refine (in_any m 1 10000000 false _ (unhide h3')).mono ?_
    rintro e w1 ⟨rfl, hw0⟩
    have hw1 := hw0.symm
    subst hw1
    go_wp2
    go_ret
    exact unhide hz'
  have h2' := hide (fl_b r true ⟨fun _ => h2, fun _ => rfl⟩)
  have h3' := hide (fl_b m true ⟨fun _ => h3, fun _ => rfl⟩)
  have hall2 := hide h2
  have hall3 := hide h3
  obtain ⟨r0, r1⟩ := h2
  obtain ⟨m0, m1⟩ := h3
  go_enter Try.func16, Try.ntmps16
  go_wp2_with fail
  refine (in_any r 1 10000000 true _ (unhide h2')).mono ?_
  rintro e w1 ⟨rfl, hw0⟩
  have hw1 := hw0.symm
  subst hw1
  go_wp2_with fail
  refine (in_any m 1 10000000 true _ (unhide h3')).mono ?_
  rintro e w1 ⟨rfl, hw0⟩
  have hw1 := hw0.symm
  subst hw1
  go_wp2
  generalize w.alloc (.cells #[] 2) = W1 at *
  go_loop [8] (fun t => ∃ k : Nat, k ≤ l.length ∧ t = .int .i64 k ∧ Hid (NsPre Fr7 l k)) (fun t => l.length - (intOf t).toNat)
  case atStart => exact ⟨0, by omega, rfl, hide (NsPre.zero _ l)⟩
  case round =>
    obtain ⟨k, hk, rfl, hA⟩ := hrel
    by_cases hlt : k < l.length
    · obtain ⟨b, o, x, rfl, hx, hbl, c0⟩ := ins_at (unhide hk') (Below.refl _ _) hlt
      have hx' := hide hx
      clear hx hbl
      by_cases f0 : Fr7 x
      · have hS := hide ((fr7_b x).symm.trans (decide_eq_true f0))
        have hnew := hide ((unhide hA).step (unhide hx') f0)
        clear f0 hA
        go_wp2_with fail
        refine (sfr_any x true _ (unhide hS)).mono ?_
        rintro e w1 ⟨rfl, hw0⟩
        have hw1 := hw0.symm
        subst hw1
        go_wp2
        go_round
        case rel => exact ⟨k + 1, by omega, by go_num, hnew⟩
        case measure => simp [intOf]; omega
      · have hS := hide ((fr7_b x).symm.trans (decide_eq_false f0))
        rw [buf_no (fun h => f0 (h.1.1 x (List.mem_of_getElem? (unhide hx'))))]
        clear f0 hA
        go_wp2_with fail
        refine (sfr_any x false _ (unhide hS)).mono ?_
        rintro e w1 ⟨rfl, hw0⟩
        have hw1 := hw0.symm
        subst hw1
        go_wp2
        go_ret
        exact unhide hz'
    · have hke : k = l.length := by omega
      have hall : Hid (∀ x ∈ l, Fr7 x) := hide (NsPre.all (by have := unhide hA; rw [hke] at this; exact this))
      have hbd := hide (bufR_bd r0 m0 (unhide hall))
      clear hA hke hz'
      have hd9 : decide ((k : Int) < (l.length : Int)) = false := decide_eq_false (by omega)
      have hd8 : decide (k < l.length) = false := decide_eq_false hlt
      clear hk
      go_wp2
      go_loopw [7, 9, 10] (fun s q t wr => ∃ (k g c : Nat) (F : Int) (L : List Int), k ≤ l.length ∧ t = .int .i64 k ∧ q = .int .i64 F ∧ s = .slice (some ⟨g, 0, none⟩) k c ∧ w.heap.size ≤ g ∧ 0 ≤ F ∧ F ≤ m ∧ Hid (bufR r m (l.take k) = (F, L)) ∧ Hid (OwnI wr w.heap.size g k c L) ∧ Hid (Below w.heap.size w wr) ∧ Hid (Ins wr a l)) (fun _ _ t _ => l.length - (intOf t).toNat)
      case atStart => exact ⟨0, _, _, m, [], by omega, rfl, rfl, rfl, Nat.le_refl _, by omega, by omega, hide rfl, ho, hb, hk'⟩
      case round =>
        clear ho hb hk'
        obtain ⟨k, g, c, F, L, hk, rfl, rfl, rfl, hg, F0, F1, hR, ho, hb, hk'⟩ := hrel
        have hs4 := (unhide hb).size
        by_cases hlt : k < l.length
        · obtain ⟨b, o, x, rfl, hx, hbl, c0⟩ := ins_at (unhide hk') (Below.refl _ _) hlt
          have hx' := hide hx
          have hf := (unhide hall) x (List.mem_of_getElem? hx)
          obtain ⟨x0, x1⟩ := hf
          have hR2 := hide (show bufR r m (l.take (k + 1)) = bufS r m (F, L) x by rw [take_snocI hx, bufR_snoc, unhide hR])
          have hF := hide (unhide hbd (k + 1) (by omega))
          clear hx hbl
          by_cases hgt : F < x
          · have hd : decide (x ≤ F) = false := decide_eq_false (by omega)
            obtain ⟨Y, hY⟩ : ∃ Y, min m (F + r) = Y := ⟨_, rfl⟩
            have hY' := hide hY
            have hR3 := hide (show bufR r m (l.take (k + 1)) = (Y, L ++ [-1]) by rw [unhide hR2]; unfold bufS; rw [if_pos hgt, ← hY, Int.min_comm])
            have hb2 : 0 ≤ Y ∧ Y ≤ m := by have := unhide hF; rw [unhide hR3] at this; exact this
            obtain ⟨y0, y1⟩ := hb2
            clear hR2 hF hR hY hgt
            go_wp2_with fail
            refine (min_any m (F + r) Y _ (unhide hY')).mono ?_
            rintro e w1 ⟨rfl, hw0⟩
            have hw1 := hw0.symm
            subst hw1
            go_wp2_with (refine wpList_iA wr rfl _ _ rfl w.heap.size g k c L (-1) rfl (unhide ho) rfl (by omega) hs4 ?_)
            intro g' cap' w' hown' hbel' hg'
            have ho2 := hide hown'
            have hb3 := hide ((unhide hb).trans hbel')
            have hk2 := hide (ins_keep (unhide hk') (unhide hlow) hbel')
            clear hown' hbel' ho hb
            go_wp2
            go_roundw
            case rel => exact ⟨k + 1, g', cap', _, _, by omega, by go_num, rfl, rfl, hg', y0, y1, hR3, ho2, hb3, hk2⟩
            case measure => simp [intOf]; omega
          · have hd : decide (x ≤ F) = true := decide_eq_true (by omega)
            obtain ⟨Y, hY⟩ : ∃ Y, min m (F - x + r) = Y := ⟨_, rfl⟩
            have hY' := hide hY
            have hR3 := hide (show bufR r m (l.take (k + 1)) = (Y, L ++ [Y]) by rw [unhide hR2]; unfold bufS; rw [if_neg hgt, ← hY, Int.min_comm])
            have hb2 : 0 ≤ Y ∧ Y ≤ m := by have := unhide hF; rw [unhide hR3] at this; exact this
            obtain ⟨y0, y1⟩ := hb2
            clear hR2 hF hR hY hgt
            go_wp2_with fail
            refine (min_any m (F - x + r) Y _ (unhide hY')).mono ?_
            rintro e w1 ⟨rfl, hw0⟩
            have hw1 := hw0.symm
            subst hw1
            go_wp2_with (refine wpList_iA wr rfl _ _ rfl w.heap.size g k c L Y rfl (unhide ho) rfl (by omega) hs4 ?_)
            intro g' cap' w' hown' hbel' hg'
            have ho2 := hide hown'
            have hb3 := hide ((unhide hb).trans hbel')
            have hk2 := hide (ins_keep (unhide hk') (unhide hlow) hbel')
            clear hown' hbel' ho hb
            go_wp2
            go_roundw
            case rel => exact ⟨k + 1, g', cap', _, _, by omega, by go_num, rfl, rfl, hg', y0, y1, hR3, ho2, hb3, hk2⟩
            case measure => simp [intOf]; omega
        · have hke : k = l.length := by omega
          have hfin : Hid ((bufR r m l).2 = L) := hide (by have := unhide hR; rw [hke, List.take_length] at this; rw [this])
          have hLn : Hid (L.length = k) := hide (by rw [← unhide hfin, hke]; have := bufR_len r m l l.length (Nat.le_refl _); rw [List.take_length] at this; exact this)
          clear hR
          go_wp2
          go_ret
          rw [buf_yes ⟨⟨unhide hall, hln⟩, unhide hall2, unhide hall3⟩, unhide hfin]
          exact AnI.mk (unhide hLn) hg (unhide ho) (unhide hb)

end Go.Proofs.YtcchgjeopmaemaaRRR
