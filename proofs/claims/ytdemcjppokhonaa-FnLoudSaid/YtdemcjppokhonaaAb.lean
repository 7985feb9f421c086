/-
  Contracts of Loud, the model's and the program's, and of what is above a limit; nothing that was there is written.
-/
import Derived.Test.YtdemcjppokhonaaLf
namespace Go.Proofs.Ytdemcjppokhonaa
open Go.RowKit
set_option linter.unusedVariables false
set_option linter.unusedSimpArgs false

/-- x is above y -/
def gtB (x y : Nat) : Bool := FloatKind.f64.format.order x y == some .gt
theorem gtB_sm {x y x' y' : Nat} (hx : Sm x x') (hy : Sm y y') : gtB x y = gtB x' y' := by unfold gtB; rw [order_sm hx hy]
def abv (l : List Nat) (lim : Nat) : List Nat := l.filter fun x => gtB x lim
theorem abv_sm (l : List Nat) {lim lim' : Nat} (h : Sm lim lim') : abv l lim = abv l lim' := by
  unfold abv
  exact List.filter_congr fun x _ => gtB_sm Sm.rfl h
theorem abv_yes {l : List Nat} {k x lim : Nat} (h : l[k]? = some x) (hg : gtB x lim = true) : abv (l.take (k + 1)) lim = abv (l.take k) lim ++ [x] := by
  unfold abv; rw [take_snoc h, List.filter_append]; simp [hg]
theorem abv_no {l : List Nat} {k x lim : Nat} (h : l[k]? = some x) (hg : gtB x lim = false) : abv (l.take (k + 1)) lim = abv (l.take k) lim := by
  unfold abv; rw [take_snoc h, List.filter_append]; simp [hg]
theorem abv_len (l : List Nat) (lim : Nat) : (abv l lim).length ≤ l.length := List.length_filter_le _ _

/-- an answer: just these numbers -/
def AnL (L : List Nat) (w : World) (e : Ending) (w' : World) : Prop :=
  ∃ g cap, e = .returned (.slice (some ⟨g, 0, none⟩) L.length cap) ∧ w.heap.size ≤ g ∧ w'.ownsRow w.heap.size 25 1 (.slice (some ⟨g, 0, none⟩) L.length cap) L.length (L.map fl) ∧ Below w.heap.size w w'

set_option maxHeartbeats 1600000 in
theorem abv_any (a : Option Addr) (ca : Nat) (l : List Nat) (lim : Nat) (w : World) (hl : l.length ≤ 4096) (ha : Fls false 0 w.heap.size w a l) :
    Calls Try.prog 46 #[.slice a l.length ca, .float .f64 lim] w (AnL (abv l lim) w) := by
  have ha' := hide ha
  clear ha
  obtain ⟨i0, hi, hz0, hz1, hz2⟩ := info_parts info22
  go_enter Try.func46, Try.ntmps46
  go_wp2_with (refine wpList_make_own _ rfl _ _ 24 rfl w.heap.size 25 i0 (.float .f64 0) 1 Try.underlying24 hi hz0 hz1 .i64 .i64 _ l.length rfl rfl rfl ?b2 ?b3 (Nat.le_refl _) ?_)
  case b2 => rw [hz2]; omega
  case b3 => unfold maxLen; omega
  intro w1 hown hg
  have hb1' := hide (show Below w.heap.size w w1 from (Below.refl _ _).grown hg (Nat.le_refl _) (fun k hk => by cases hk))
  have hown1 : Hid (w1.ownsRow w.heap.size 25 1 (.slice (some ⟨w.heap.size, 0, none⟩) 0 l.length) 0 (([] : List Nat).map fl)) := hide (by simpa using hown)
  clear hown hg
  go_wp2
  go_loopw [5, 13] (fun s t wr => ∃ (k g cap : Nat) (L : List Nat), k ≤ l.length ∧ t = .int .i64 k ∧ s = .slice (some ⟨g, 0, none⟩) L.length cap ∧ L.length ≤ k ∧ w.heap.size ≤ g ∧ Hid (wr.ownsRow w.heap.size 25 1 (.slice (some ⟨g, 0, none⟩) L.length cap) L.length (L.map fl)) ∧ Hid (L = abv (l.take k) lim) ∧ Hid (Below w.heap.size w wr)) (fun _ t _ => l.length - (intOf t).toNat)
  case atStart => exact ⟨0, w.heap.size, l.length, [], by omega, rfl, rfl, by simp, Nat.le_refl _, hown1, hide rfl, hb1'⟩
  case round =>
    clear hown1 hb1'
    obtain ⟨k, g, cap, L, hk, rfl, rfl, hLk, hg, hown, hpw, hw⟩ := hrel
    by_cases hlt : k < l.length
    · obtain ⟨x, hx⟩ : ∃ x, l[k]? = some x := ⟨l[k], List.getElem?_eq_getElem hlt⟩
      obtain ⟨b1, o1, rfl, _, i1, c0, _⟩ := unhide ha' k x hx
      have d0 : wr.cell? ⟨b1, o1 + k, none⟩ = some (.float .f64 x) := by rw [(bcell (unhide hw)).1 _ _ i1]; exact c0
      have s4 := (unhide hw).size
      have hyes := hide (fun h => abv_yes (lim := lim) hx h)
      have hno := hide (fun h => abv_no (lim := lim) hx h)
      clear hx c0
      obtain ⟨t, ht⟩ : ∃ t, (FloatKind.f64.format.order x lim == some .gt) = t := ⟨_, rfl⟩
      have htg := hide (show gtB x lim = t from ht)
      cases t
      · have hL := hide (show L = abv (l.take (k + 1)) lim by rw [unhide hno (unhide htg)]; exact unhide hpw)
        clear hyes hno htg hpw
        go_wp2
        go_roundw
        case rel => exact ⟨k + 1, g, cap, L, by omega, by go_num, rfl, by omega, hg, hown, hL, hw⟩
        case measure => simp [intOf]; omega
      · have hL := hide (show L ++ [x] = abv (l.take (k + 1)) lim by rw [unhide hyes (unhide htg), ← unhide hpw])
        clear hyes hno htg hpw
        have hLL : L.length ≤ 1000000 := by omega
        go_wp2_with (refine wpList_flA wr rfl _ _ rfl w.heap.size g L.length cap L x rfl (unhide hown) rfl hLL s4 ?_)
        intro g' cap' w' hown' hbel' hg'
        have hown2 := hide (show w'.ownsRow w.heap.size 25 1 (.slice (some ⟨g', 0, none⟩) (L ++ [x]).length cap') (L ++ [x]).length ((L ++ [x]).map fl) by simpa using hown')
        have hw2 := hide ((unhide hw).trans hbel')
        have hLe : L.length + 1 = (L ++ [x]).length := by simp
        rw [hLe]
        have hLn : (L ++ [x]).length ≤ k + 1 := by simp; omega
        clear hown' hbel' hown hw hLe hLL hLk
        generalize L ++ [x] = M at *
        go_wp2
        go_roundw
        case rel => exact ⟨k + 1, g', cap', M, by omega, by go_num, rfl, hLn, hg', hown2, hL, hw2⟩
        case measure => simp [intOf]; omega
    · have hke : k = l.length := by omega
      have hfin : Hid (L = abv l lim) := hide (by have := unhide hpw; rw [hke, List.take_length] at this; exact this)
      clear hpw
      subst hke
      go_wp2
      go_ret
      rw [← unhide hfin]
      exact ⟨g, cap, rfl, hg, unhide hown, unhide hw⟩

set_option maxHeartbeats 1600000 in
theorem sabv_any (a : Option Addr) (ca : Nat) (l : List Nat) (lim : Nat) (w : World) (hl : l.length ≤ 4096) (ha : Fls false 0 w.heap.size w a l) :
    Calls Try.prog 48 #[.slice a l.length ca, .float .f64 lim] w (AnL (abv l lim) w) := by
  have ha' := hide ha
  clear ha
  have hown0 := hide (own_lit w).2
  go_enter Try.func48, Try.ntmps48
  go_wp2
  go_loopw [5, 6] (fun s t wr => ∃ (k g cap : Nat) (L : List Nat), k ≤ l.length ∧ t = .int .i64 k ∧ s = .slice (some ⟨g, 0, none⟩) L.length cap ∧ L.length ≤ k ∧ w.heap.size ≤ g ∧ Hid (wr.ownsRow w.heap.size 25 1 (.slice (some ⟨g, 0, none⟩) L.length cap) L.length (L.map fl)) ∧ Hid (L = abv (l.take k) lim) ∧ Hid (Below w.heap.size w wr)) (fun _ t _ => l.length - (intOf t).toNat)
  case atStart => exact ⟨0, w.heap.size, 0, [], by omega, rfl, rfl, by simp, Nat.le_refl _, hown0, hide rfl, hide ((Below.refl _ _).alloc (Nat.le_refl _) _)⟩
  case round =>
    clear hown0
    obtain ⟨k, g, cap, L, hk, rfl, rfl, hLk, hg, hown, hpw, hw⟩ := hrel
    by_cases hlt : k < l.length
    · obtain ⟨x, hx⟩ : ∃ x, l[k]? = some x := ⟨l[k], List.getElem?_eq_getElem hlt⟩
      obtain ⟨b1, o1, rfl, _, i1, c0, _⟩ := unhide ha' k x hx
      have d0 : wr.cell? ⟨b1, o1 + k, none⟩ = some (.float .f64 x) := by rw [(bcell (unhide hw)).1 _ _ i1]; exact c0
      have s4 := (unhide hw).size
      have hyes := hide (fun h => abv_yes (lim := lim) hx h)
      have hno := hide (fun h => abv_no (lim := lim) hx h)
      clear hx c0
      obtain ⟨t, ht⟩ : ∃ t, (FloatKind.f64.format.order x lim == some .gt) = t := ⟨_, rfl⟩
      have htg := hide (show gtB x lim = t from ht)
      cases t
      · have hL := hide (show L = abv (l.take (k + 1)) lim by rw [unhide hno (unhide htg)]; exact unhide hpw)
        clear hyes hno htg hpw
        go_wp2
        go_roundw
        case rel => exact ⟨k + 1, g, cap, L, by omega, by go_num, rfl, by omega, hg, hown, hL, hw⟩
        case measure => simp [intOf]; omega
      · have hL := hide (show L ++ [x] = abv (l.take (k + 1)) lim by rw [unhide hyes (unhide htg), ← unhide hpw])
        clear hyes hno htg hpw
        have hLL : L.length ≤ 1000000 := by omega
        go_wp2_with (refine wpList_flA wr rfl _ _ rfl w.heap.size g L.length cap L x rfl (unhide hown) rfl hLL s4 ?_)
        intro g' cap' w' hown' hbel' hg'
        have hown2 := hide (show w'.ownsRow w.heap.size 25 1 (.slice (some ⟨g', 0, none⟩) (L ++ [x]).length cap') (L ++ [x]).length ((L ++ [x]).map fl) by simpa using hown')
        have hw2 := hide ((unhide hw).trans hbel')
        have hLe : L.length + 1 = (L ++ [x]).length := by simp
        rw [hLe]
        have hLn : (L ++ [x]).length ≤ k + 1 := by simp; omega
        clear hown' hbel' hown hw hLe hLL hLk
        generalize L ++ [x] = M at *
        go_wp2
        go_roundw
        case rel => exact ⟨k + 1, g', cap', M, by omega, by go_num, rfl, hLn, hg', hown2, hL, hw2⟩
        case measure => simp [intOf]; omega
    · have hke : k = l.length := by omega
      have hfin : Hid (L = abv l lim) := hide (by have := unhide hpw; rw [hke, List.take_length] at this; exact this)
      clear hpw
      subst hke
      go_wp2
      go_ret
      rw [← unhide hfin]
      exact ⟨g, cap, rfl, hg, unhide hown, unhide hw⟩

/-- how loud -/
def loudV (l : List Nat) (low share : Nat) : Nat := if l.length ≤ 4096 then meanV (abv (abv l low) (nv .mul share (meanV (abv l low)))) else 0

set_option maxHeartbeats 1600000 in
theorem iloud_any (a : Option Addr) (ca : Nat) (l : List Nat) (low share : Nat) (w : World) (ha : Fls false 0 w.heap.size w a l) :
    Calls Try.prog 21 #[.slice a l.length ca, .float .f64 low, .float .f64 share] w fun e w' => ∃ v, e = .returned (.float .f64 v) ∧ Sm v (loudV l low share) ∧ Below w.heap.size w w' := by
  have ha' := hide ha
  clear ha
  have h1 := hide (isnd_any a l.length ca w)
  by_cases hl : l.length ≤ 4096
  · have hV : loudV l low share = meanV (abv (abv l low) (nv .mul share (meanV (abv l low)))) := by unfold loudV; rw [if_pos hl]
    rw [hV]
    clear hV
    have hA := Nat.le_trans (abv_len l low) hl
    obtain ⟨A, eA⟩ : ∃ A, abv l low = A := ⟨_, rfl⟩
    rw [eA] at hA ⊢
    have hB := Nat.le_trans (abv_len A (nv .mul share (meanV A))) hA
    obtain ⟨B, eB⟩ : ∃ B, abv A (nv .mul share (meanV A)) = B := ⟨_, rfl⟩
    rw [eB] at hB ⊢
    have eA' := hide eA
    have eB' := hide eB
    clear eA eB
    have hd : decide (l.length ≤ 4096) = true := decide_eq_true hl
    rw [hd] at h1
    clear hd
    go_enter Try.func21, Try.ntmps21
    go_wp2_with fail
    refine (unhide h1).mono ?_
    rintro e w0 ⟨rfl, hw0⟩
    have hw0 := hw0.symm
    subst hw0
    clear h1
    go_wp2_with fail
    refine (abv_any a ca l low _ hl (unhide ha')).mono ?_
    rintro e w1 ⟨g, cap, rfl, hg, hown, hb⟩
    have eA := unhide eA'
    rw [eA] at hown ⊢
    clear eA
    have ho := hide hown
    have hb' := hide hb
    clear hown hb
    go_wp2_with fail
    refine (mean_any _ cap A _ (by omega) (fls_ownB (unhide ho))).mono ?_
    rintro e w2 ⟨m, rfl, hm, hb2⟩
    have ho2 := hide (ownsRow_below (unhide ho) hb2)
    have hb2' := hide (laterB (unhide hb') hb2)
    have hm' := hide hm
    clear hb2 hm ho hb'
    go_wp2_with fail
    refine (abv_any _ cap A _ _ hA (carry (fls_ownB (unhide ho2)) (below_drew _))).mono ?_
    rintro e w3 ⟨g3, cap3, rfl, hg3, hown3, hb3⟩
    have e4 : abv A (fv .mul share m w2) = B := (abv_sm A (fv_sm Sm.rfl (unhide hm'))).trans (unhide eB')
    rw [e4] at hown3 ⊢
    have ho3 := hide hown3
    have hb3' := hide ((unhide hb2').trans ((laterB (below_drew _) hb3).mono (unhide hb2').size))
    clear hown3 hb3 ho2 hb2' e4 hm'
    go_wp2_with fail
    refine (mean_any _ cap3 B _ (by omega) (fls_ownB (unhide ho3))).mono ?_
    rintro e w4 ⟨m4, rfl, hm4, hb4⟩
    have hf := hide (laterB (unhide hb3') hb4)
    have hm4' := hide hm4
    clear hb4 hm4 ho3 hb3'
    go_wp2
    go_ret
    exact ⟨_, rfl, unhide hm4', unhide hf⟩
  · have hV : loudV l low share = 0 := by unfold loudV; rw [if_neg hl]
    rw [hV]
    clear hV
    have hd : decide (l.length ≤ 4096) = false := decide_eq_false hl
    rw [hd] at h1
    clear hd
    go_enter Try.func21, Try.ntmps21
    go_wp2_with fail
    refine (unhide h1).mono ?_
    rintro e w0 ⟨rfl, hw0⟩
    have hw0 := hw0.symm
    subst hw0
    clear h1
    go_wp2
    go_ret
    exact ⟨_, rfl, Sm.rfl, Below.refl _ _⟩

set_option maxHeartbeats 1600000 in
theorem sloud_any (a : Option Addr) (ca : Nat) (l : List Nat) (low share : Nat) (w : World) (ha : Fls false 0 w.heap.size w a l) :
    Calls Try.prog 22 #[.slice a l.length ca, .float .f64 low, .float .f64 share] w fun e w' => ∃ v, e = .returned (.float .f64 v) ∧ Sm v (loudV l low share) ∧ Below w.heap.size w w' := by
  have ha' := hide ha
  clear ha
  have h1 := hide (sok_any a l.length ca w)
  by_cases hl : l.length ≤ 4096
  · have hV : loudV l low share = meanV (abv (abv l low) (nv .mul share (meanV (abv l low)))) := by unfold loudV; rw [if_pos hl]
    rw [hV]
    clear hV
    have hA := Nat.le_trans (abv_len l low) hl
    obtain ⟨A, eA⟩ : ∃ A, abv l low = A := ⟨_, rfl⟩
    rw [eA] at hA ⊢
    have hB := Nat.le_trans (abv_len A (nv .mul share (meanV A))) hA
    obtain ⟨B, eB⟩ : ∃ B, abv A (nv .mul share (meanV A)) = B := ⟨_, rfl⟩
    rw [eB] at hB ⊢
    have eA' := hide eA
    have eB' := hide eB
    clear eA eB
    have hd : decide (l.length ≤ 4096) = true := decide_eq_true hl
    rw [hd] at h1
    clear hd
    by_cases zA : A.length = 0
    · have zB : meanV B = 0 := by
        have : B = [] := by rw [← unhide eB', List.eq_nil_of_length_eq_zero zA]; rfl
        rw [this]; rfl
      rw [zB]
      clear zB hB eB'
      have zA' := hide zA
      have tA : ((A.length : Int) == 0) = true := by rw [zA]; rfl
      clear zA
      go_enter Try.func22, Try.ntmps22
      go_wp2_with fail
      refine (unhide h1).mono ?_
      rintro e w0 ⟨rfl, hw0⟩
      have hw0 := hw0.symm
      subst hw0
      clear h1
      go_wp2_with fail
      refine (sabv_any a ca l low _ hl (unhide ha')).mono ?_
      rintro e w1 ⟨g, cap, rfl, hg, hown, hb⟩
      have eA := unhide eA'
      rw [eA] at hown ⊢
      clear eA
      have hb' := hide hb
      clear hown hb
      go_wp2
      go_ret
      exact ⟨_, rfl, Sm.rfl, unhide hb'⟩
    have mA : meanV A = nv .quo (sumV A) (floatOfInt .f64 A.length) := by unfold meanV; rw [if_neg zA]
    have mA' := hide mA
    clear mA
    have tA : ((A.length : Int) == 0) = false := beq_eq_false_iff_ne.2 (by omega)
    obtain ⟨M, eM⟩ : ∃ M, meanV B = M := ⟨_, rfl⟩
    rw [eM]
    have eM' := hide eM
    clear eM
    obtain ⟨tb, htb⟩ : ∃ tb, ((B.length : Int) == 0) = tb := ⟨_, rfl⟩
    go_enter Try.func22, Try.ntmps22
    go_wp2_with fail
    refine (unhide h1).mono ?_
    rintro e w0 ⟨rfl, hw0⟩
    have hw0 := hw0.symm
    subst hw0
    clear h1
    go_wp2_with fail
    refine (sabv_any a ca l low _ hl (unhide ha')).mono ?_
    rintro e w1 ⟨g, cap, rfl, hg, hown, hb⟩
    have eA := unhide eA'
    rw [eA] at hown ⊢
    clear eA
    have ho := hide hown
    have hb' := hide hb
    clear hown hb
    go_wp2_with fail
    refine (smean_any _ cap A _ (by omega) (fls_ownB (unhide ho))).mono ?_
    rintro e w2 ⟨m, rfl, hm, hb2⟩
    have ho2 := hide (ownsRow_below (unhide ho) hb2)
    have hb2' := hide (laterB (unhide hb') hb2)
    have hm' := hide (show Sm m (meanV A) by rw [unhide mA']; exact hm)
    clear hb2 hm ho hb'
    go_wp2_with fail
    refine (sabv_any _ cap A _ _ hA (carry (fls_ownB (unhide ho2)) (below_drew _))).mono ?_
    rintro e w3 ⟨g3, cap3, rfl, hg3, hown3, hb3⟩
    have e4 : abv A (fv .mul share m w2) = B := (abv_sm A (fv_sm Sm.rfl (unhide hm'))).trans (unhide eB')
    rw [e4] at hown3 ⊢
    have ho3 := hide hown3
    have hb3' := hide ((unhide hb2').trans ((laterB (below_drew _) hb3).mono (unhide hb2').size))
    clear hown3 hb3 ho2 hb2' e4 hm'
    cases tb
    · have hB0 : ¬ B.length = 0 := by have := beq_eq_false_iff_ne.1 htb; omega
      have mB := hide (show M = nv .quo (sumV B) (floatOfInt .f64 B.length) by rw [← unhide eM']; unfold meanV; rw [if_neg hB0])
      clear hB0
      go_wp2_with fail
      refine (smean_any _ cap3 B _ (by omega) (fls_ownB (unhide ho3))).mono ?_
      rintro e w4 ⟨m4, rfl, hm4, hb4⟩
      have hf := hide (laterB (unhide hb3') hb4)
      have hm4' := hide (show Sm m4 M by rw [unhide mB]; exact hm4)
      clear hb4 hm4 ho3 hb3' mB
      go_wp2
      go_ret
      exact ⟨_, rfl, unhide hm4', unhide hf⟩
    · have mB := hide (show M = 0 by rw [← unhide eM']; unfold meanV; rw [if_pos (by have := eq_of_beq htb; omega)])
      go_wp2
      go_ret
      exact ⟨_, rfl, by rw [unhide mB]; exact Sm.rfl, unhide hb3'⟩
  · have hV : loudV l low share = 0 := by unfold loudV; rw [if_neg hl]
    rw [hV]
    clear hV
    have hd : decide (l.length ≤ 4096) = false := decide_eq_false hl
    rw [hd] at h1
    clear hd
    go_enter Try.func22, Try.ntmps22
    go_wp2_with fail
    refine (unhide h1).mono ?_
    rintro e w0 ⟨rfl, hw0⟩
    have hw0 := hw0.symm
    subst hw0
    clear h1
    go_wp2
    go_ret
    exact ⟨_, rfl, Sm.rfl, Below.refl _ _⟩
end Go.Proofs.Ytdemcjppokhonaa
