/-
  Contracts of the model's and the program's Curve; nothing that was there is written.
-/
import Derived.Test.YtdmcbdogpeidjaaBas
namespace Go.Proofs.Ytdmcbdogpeidjaa
open Go.RowKit
set_option linter.unusedVariables false
set_option linter.unusedSimpArgs false

theorem crv_all {t : List Int} (h1 : 2 ≤ t.length) (h2 : t.length ≤ 257) (h : NsPre LvOk t t.length) : CrvOk t := ⟨h1, h2, h.all⟩
theorem crvno {t : List Int} {j : Nat} {x : Int} (hj : t[j]? = some x) (h : ¬ LvOk x) : ¬ CrvOk t := fun H => h (H.2.2 x (List.mem_of_getElem? hj))

set_option maxHeartbeats 1600000 in
theorem icrvok_any (a : Option Addr) (cap : Nat) (l : List Int) (v : Bool) (w : World) (hl : l.length ≤ maxLen) (hk : Ins w a l) (hv : v = true ↔ CrvOk l) :
    Calls Try.prog 61 #[.slice a l.length cap] w fun e w' => e = .returned (.bool v) ∧ w' = w := by
  have hk' := hide hk
  have hv' := hide hv
  clear hk hv
  unfold maxLen at hl
  by_cases h1 : l.length < 2
  · have hno : v = false := by cases v with | false => rfl | true => exact absurd ((unhide hv').1 rfl).1 (by omega)
    subst hno
    have g1 : decide ((l.length : Int) < 2) = true := by simp; omega
    go_enter Try.func61, Try.ntmps61
    go_wp2
    go_ret
    exact ⟨rfl, rfl⟩
  by_cases h2 : 257 < l.length
  · have hno : v = false := by cases v with | false => rfl | true => exact absurd ((unhide hv').1 rfl).2.1 (by omega)
    subst hno
    have g1 : decide ((l.length : Int) < 2) = false := by simp; omega
    have g2 : decide ((257 : Int) < l.length) = true := by simp; omega
    go_enter Try.func61, Try.ntmps61
    go_wp2
    go_ret
    exact ⟨rfl, rfl⟩
  have g1 : decide ((l.length : Int) < 2) = false := by simp; omega
  have g2 : decide ((257 : Int) < l.length) = false := by simp; omega
  have h1' : 2 ≤ l.length := by omega
  have h2' : l.length ≤ 257 := by omega
  clear h1 h2
  go_enter Try.func61, Try.ntmps61
  go_wp2
  go_loop [15] (fun t => ∃ k : Nat, k ≤ l.length ∧ t = .int .i64 k ∧ Hid (NsPre LvOk l k)) (fun t => l.length - (intOf t).toNat)
  case atStart => exact ⟨0, by omega, rfl, hide (NsPre.zero _ l)⟩
  case round =>
    obtain ⟨k, hk, rfl, hA⟩ := hrel
    by_cases hlt : k < l.length
    · obtain ⟨b, o, x, rfl, hx, hbl, c0⟩ := ins_at (unhide hk') (Below.refl _ _) hlt
      have hx' := hide hx
      clear hx hbl
      by_cases f0 : LvOk x
      · have hS := hide (decide_eq_true f0)
        have hnew := hide ((unhide hA).step (unhide hx') f0)
        clear f0 hA
        go_wp2_with fail
        refine (ilv_any x true _ (unhide hS)).mono ?_
        rintro e w1 ⟨rfl, hw0⟩
        have hw1 := hw0.symm
        subst hw1
        go_wp2
        go_round
        case rel => exact ⟨k + 1, by omega, by go_num, hnew⟩
        case measure => simp [intOf]; omega
      · have hS := hide (decide_eq_false f0)
        have hno : v = false := by cases v with | false => rfl | true => exact absurd ((unhide hv').1 rfl) (crvno (unhide hx') f0)
        subst hno
        clear f0 hA
        go_wp2_with fail
        refine (ilv_any x false _ (unhide hS)).mono ?_
        rintro e w1 ⟨rfl, hw0⟩
        have hw1 := hw0.symm
        subst hw1
        go_wp2
        go_ret
        exact ⟨rfl, rfl⟩
    · have hke : k = l.length := by omega
      have hyes : v = true := (unhide hv').2 (crv_all h1' h2' (by have := unhide hA; rw [hke] at this; exact this))
      subst hyes
      clear hA
      go_wp2
      go_ret
      exact ⟨rfl, rfl⟩

/-- what the answer needs: the place, the two values beside it, bounds -/
theorem crv_parts {l : List Int} {v : Int} (h : CrvOk l) (hv : LvOk v) : ∃ (k : Nat) (r x y : Int), plI v (l.length - 1) = k ∧ plR v (l.length - 1) = r ∧ k + 1 < l.length ∧ l[k]? = some x ∧ l[k + 1]? = some y ∧ LvOk x ∧ LvOk y ∧ LvOk r ∧ crvAt l v = x + rnd ((y - x) * r) 65535 ∧ (-4294836225 ≤ (y - x) * r ∧ (y - x) * r ≤ 4294836225) ∧ (-65535 ≤ rnd ((y - x) * r) 65535 ∧ rnd ((y - x) * r) 65535 ≤ 65535) := by
  obtain ⟨h1, h2, h3⟩ := h
  obtain ⟨a, b, c, d⟩ := pl_facts hv (show (1 : Int) ≤ l.length - 1 by omega)
  have hk : (plI v (l.length - 1)).toNat + 1 < l.length := by omega
  have e1 : l[(plI v (l.length - 1)).toNat]? = some l[(plI v (l.length - 1)).toNat] := List.getElem?_eq_getElem (by omega)
  have e2 : l[(plI v (l.length - 1)).toNat + 1]? = some l[(plI v (l.length - 1)).toNat + 1] := List.getElem?_eq_getElem hk
  have x0 := h3 _ (List.mem_of_getElem? e1)
  have y0 := h3 _ (List.mem_of_getElem? e2)
  have hm := mul_bd (u := l[(plI v (l.length - 1)).toNat + 1] - l[(plI v (l.length - 1)).toNat]) (v := plR v (l.length - 1)) (a := 65535) (b := 65535) (by unfold LvOk at x0 y0; omega) (by omega)
  refine ⟨(plI v (l.length - 1)).toNat, plR v (l.length - 1), _, _, by omega, rfl, hk, e1, e2, x0, y0, ⟨c, d⟩, ?_, by omega, rnd_bd (by omega) (by omega) (by omega)⟩
  unfold crvAt
  simp only [List.getD, e1, e2, Option.getD_some]

theorem keep2q {w w0 : World} {a1 a2 : Addr} {v1 v2 : Value} (h : w0.cell? a1 = some v1 ∧ w0.cell? a2 = some v2 ∧ Below w.heap.size w w0) : w0.drew.cell? a1 = some v1 ∧ w0.drew.cell? a2 = some v2 ∧ Below w.heap.size w w0.drew :=
  ⟨h.1, h.2.1, h.2.2.drew⟩

set_option maxHeartbeats 1600000 in
theorem icrv_any (a : Option Addr) (cap : Nat) (l : List Int) (v V : Int) (w : World) (hl : l.length ≤ maxLen) (hk : Ins w a l) (hv : crvOf l v = V) :
    Calls Try.prog 29 #[.slice a l.length cap, .int .i64 v] w fun e w' => e = .returned (.int .i64 V) ∧ Below w.heap.size w w' := by
  have hk' := hide hk
  have hl' := hide hl
  clear hk hl
  by_cases hC : CrvOk l
  · by_cases hV : LvOk v
    · rw [crv_yes hC hV] at hv
      obtain ⟨k, r, x, y, e1, e2, k1, ex, ey, ⟨x0, x1⟩, ⟨y0, y1⟩, ⟨r0, r1⟩, eV, ⟨m0, m1⟩, ⟨n0, n1⟩⟩ := crv_parts hC hV
      rw [eV] at hv
      have hlen := hC.2.1
      have E1 := hide e1
      have E2 := hide e2
      have hC' := hide hC
      have hV' := hide hV
      have hS := hide (decide_eq_true hV)
      obtain ⟨b, o, q, rfl, hq, i1, c0⟩ := ins_at (unhide hk') (Below.refl w.heap.size w) (show k < l.length by omega)
      rw [ex] at hq
      injection hq with hq
      subst hq
      obtain ⟨b', o', q', hbb, hq', i1', c1⟩ := ins_at (unhide hk') (Below.refl w.heap.size w) k1
      rw [ey] at hq'
      injection hq' with hq'
      subst hq'
      injection hbb with hbb
      injection hbb with hb1 hb2
      subst hb1 hb2
      generalize hm : (y - x) * r = m at *
      generalize hn : rnd m 65535 = n at *
      have hm' := hide hm
      have hn' := hide hn
      subst hv
      have i2 : ((k : Int) + 1) < l.length := by omega
      have i3 : (k : Int) < l.length := by omega
      have i4 : (0 : Int) ≤ (k : Int) := by omega
      have i5 : ((k : Int) + 1).toNat = k + 1 := by omega
      have wm : IntKind.i64.wrap ((y - x) * r) = m := by rw [unhide hm', IntKind.wrap_i64]; omega
      clear e1 e2 hC hV eV ex ey hm hn i1 i1'
      go_enter Try.func29, Try.ntmps29
      go_wp2_with fail
      refine (icrvok_any (some ⟨b, o, none⟩) cap l true _ (unhide hl') (unhide hk') ⟨fun _ => unhide hC', fun _ => rfl⟩).mono ?_
      rintro e w1 ⟨rfl, hw0⟩
      have hw1 := hw0.symm
      subst hw1
      go_wp2_with fail
      refine (ilv_any v true _ (unhide hS)).mono ?_
      rintro e w1 ⟨rfl, hw0⟩
      have hw1 := hw0.symm
      subst hw1
      go_wp2_with fail
      refine (ipart_any v (l.length - 1) k r _ (unhide hV') (by omega) (by omega) (unhide E1) (unhide E2)).mono ?_
      rintro e w1 ⟨rfl, hw0⟩
      have hw1 := hw0.symm
      subst hw1
      go_wp2_with fail
      go_quiet ((go_at_call 45; exact Calls.quiet_of_same (irnd_any m 65535 n _ (by omega) (by omega) (by omega) (unhide hn'))))
      go_wp2
      go_ret
      exact ⟨rfl, below_drewN (Below.refl _ _) _⟩
    · rw [crv_no (fun h => hV h.2)] at hv
      subst hv
      have hC' := hide hC
      have hS := hide (decide_eq_false hV)
      clear hC hV
      go_enter Try.func29, Try.ntmps29
      go_wp2_with fail
      refine (icrvok_any a cap l true _ (unhide hl') (unhide hk') ⟨fun _ => unhide hC', fun _ => rfl⟩).mono ?_
      rintro e w1 ⟨rfl, hw0⟩
      have hw1 := hw0.symm
      subst hw1
      go_wp2_with fail
      refine (ilv_any v false _ (unhide hS)).mono ?_
      rintro e w1 ⟨rfl, hw0⟩
      have hw1 := hw0.symm
      subst hw1
      go_wp2
      go_ret
      exact ⟨rfl, Below.refl _ _⟩
  · rw [crv_no (fun h => hC h.1)] at hv
    subst hv
    have hC' := hide hC
    clear hC
    go_enter Try.func29, Try.ntmps29
    go_wp2_with fail
    refine (icrvok_any a cap l false _ (unhide hl') (unhide hk') ⟨(fun h => by cases h), fun h => absurd h (unhide hC')⟩).mono ?_
    rintro e w1 ⟨rfl, hw0⟩
    have hw1 := hw0.symm
    subst hw1
    go_wp2
    go_ret
    exact ⟨rfl, Below.refl _ _⟩
set_option maxHeartbeats 1600000 in
theorem scrv_any (a : Option Addr) (cap : Nat) (l : List Int) (v V : Int) (w : World) (hl : l.length ≤ maxLen) (hk : Ins w a l) (hv : crvOf l v = V) :
    Calls Try.prog 28 #[.slice a l.length cap, .int .i64 v] w fun e w' => e = .returned (.int .i64 V) ∧ Below w.heap.size w w' := by
  have hk' := hide hk
  have hl' := hide hl
  clear hk hl
  by_cases hC : CrvOk l
  · by_cases hV : LvOk v
    · rw [crv_yes hC hV] at hv
      obtain ⟨k, r, x, y, e1, e2, k1, ex, ey, ⟨x0, x1⟩, ⟨y0, y1⟩, ⟨r0, r1⟩, eV, ⟨m0, m1⟩, ⟨n0, n1⟩⟩ := crv_parts hC hV
      rw [eV] at hv
      have hlen := hC.2.1
      have E1 := hide e1
      have E2 := hide e2
      have hC' := hide hC
      have hV' := hide hV
      have hS := hide (decide_eq_true hV)
      obtain ⟨b, o, q, rfl, hq, i1, c0⟩ := ins_at (unhide hk') (Below.refl w.heap.size w) (show k < l.length by omega)
      rw [ex] at hq
      injection hq with hq
      subst hq
      obtain ⟨b', o', q', hbb, hq', i1', c1⟩ := ins_at (unhide hk') (Below.refl w.heap.size w) k1
      rw [ey] at hq'
      injection hq' with hq'
      subst hq'
      injection hbb with hbb
      injection hbb with hb1 hb2
      subst hb1 hb2
      generalize hm : (y - x) * r = m at *
      generalize hn : rnd m 65535 = n at *
      have hm' := hide hm
      have hn' := hide hn
      subst hv
      have i2 : ((k : Int) + 1) < l.length := by omega
      have i3 : (k : Int) < l.length := by omega
      have i4 : (0 : Int) ≤ (k : Int) := by omega
      have i5 : ((k : Int) + 1).toNat = k + 1 := by omega
      have wm : IntKind.i64.wrap ((y - x) * r) = m := by rw [unhide hm', IntKind.wrap_i64]; omega
      have hC1 := hC.1
      have g1 : decide ((l.length : Int) < 2) = false := by simp; omega
      have g2 : decide ((257 : Int) < l.length) = false := by simp; omega
      clear e1 e2 hC hV eV ex ey hm hn i1 i1'
      go_enter Try.func28, Try.ntmps28
      go_wp2_with fail
      refine (slv_any v true _ (unhide hS)).mono ?_
      rintro e w1 ⟨rfl, hw0⟩
      have hw1 := hw0.symm
      subst hw1
      go_wp2
      go_loop [5] (fun t => ∃ k : Nat, k ≤ l.length ∧ t = .int .i64 k ∧ Hid (NsPre LvOk l k)) (fun t => l.length - (intOf t).toNat)
      case atStart => exact ⟨0, by omega, rfl, hide (NsPre.zero _ l)⟩
      case round =>
        obtain ⟨j, hj, rfl, hA⟩ := hrel
        by_cases hlt : j < l.length
        · obtain ⟨b9, o9, x9, hab, hx, hbl, d0⟩ := ins_at (unhide hk') (Below.refl _ _) hlt
          injection hab with hab
          injection hab with ha1 ha2
          subst ha1 ha2
          have hx' := hide hx
          clear hx hbl
          have f0 := (unhide hC').2.2 x9 (List.mem_of_getElem? (unhide hx'))
          have hS9 := hide (decide_eq_true f0)
          have hnew := hide ((unhide hA).step (unhide hx') f0)
          clear f0 hA
          go_wp2_with fail
          refine (slv_any x9 true _ (unhide hS9)).mono ?_
          rintro e w1 ⟨rfl, hw0⟩
          have hw1 := hw0.symm
          subst hw1
          go_wp2
          go_round
          case rel => exact ⟨j + 1, by omega, by go_num, hnew⟩
          case measure => simp [intOf]; omega
        · have hke : j = l.length := by omega
          clear hA
          go_wp2_with fail
          refine (splace_any v (l.length - 1) k r _ (unhide hV') (by omega) (by omega) (unhide E1) (unhide E2)).mono ?_
          rintro e w1 ⟨rfl, hw0⟩
          have hw1 := hw0.symm
          subst hw1
          go_wp2_with fail
          go_quiet ((go_at_call 50; exact Calls.quiet_of_same (srnd_any m 65535 n _ (by omega) (by omega) (by omega) (unhide hn'))))
          go_wp2
          go_ret
          exact ⟨rfl, below_drewN (Below.refl _ _) _⟩
    · rw [crv_no (fun h => hV h.2)] at hv
      subst hv
      have hC1 := hC.1
      have hC2 := hC.2.1
      have g1 : decide ((l.length : Int) < 2) = false := by simp; omega
      have g2 : decide ((257 : Int) < l.length) = false := by simp; omega
      have hS := hide (decide_eq_false hV)
      clear hC hV
      go_enter Try.func28, Try.ntmps28
      go_wp2_with fail
      refine (slv_any v false _ (unhide hS)).mono ?_
      rintro e w1 ⟨rfl, hw0⟩
      have hw1 := hw0.symm
      subst hw1
      go_wp2
      go_ret
      exact ⟨rfl, Below.refl _ _⟩
  · rw [crv_no (fun h => hC h.1)] at hv
    subst hv
    have hC' := hide hC
    clear hC
    have hm := unhide hl'
    unfold maxLen at hm
    by_cases h1 : l.length < 2
    · have g1 : decide ((l.length : Int) < 2) = true := by simp; omega
      go_enter Try.func28, Try.ntmps28
      go_wp2
      go_ret
      exact ⟨rfl, Below.refl _ _⟩
    by_cases h2 : 257 < l.length
    · have g1 : decide ((l.length : Int) < 2) = false := by simp; omega
      have g2 : decide ((257 : Int) < l.length) = true := by simp; omega
      go_enter Try.func28, Try.ntmps28
      go_wp2
      go_ret
      exact ⟨rfl, Below.refl _ _⟩
    have g1 : decide ((l.length : Int) < 2) = false := by simp; omega
    have g2 : decide ((257 : Int) < l.length) = false := by simp; omega
    have h1' : 2 ≤ l.length := by omega
    have h2' : l.length ≤ 257 := by omega
    clear h1 h2
    by_cases hV : LvOk v
    · have hS := hide (decide_eq_true hV)
      clear hV
      go_enter Try.func28, Try.ntmps28
      go_wp2_with fail
      refine (slv_any v true _ (unhide hS)).mono ?_
      rintro e w1 ⟨rfl, hw0⟩
      have hw1 := hw0.symm
      subst hw1
      go_wp2
      go_loop [5] (fun t => ∃ k : Nat, k ≤ l.length ∧ t = .int .i64 k ∧ Hid (NsPre LvOk l k)) (fun t => l.length - (intOf t).toNat)
      case atStart => exact ⟨0, by omega, rfl, hide (NsPre.zero _ l)⟩
      case round =>
        obtain ⟨j, hj, rfl, hA⟩ := hrel
        by_cases hlt : j < l.length
        · obtain ⟨b9, o9, x9, hab, hx, hbl, d0⟩ := ins_at (unhide hk') (Below.refl _ _) hlt
          subst hab
          have hx' := hide hx
          clear hx hbl
          by_cases f0 : LvOk x9
          · have hS9 := hide (decide_eq_true f0)
            have hnew := hide ((unhide hA).step (unhide hx') f0)
            clear f0 hA
            go_wp2_with fail
            refine (slv_any x9 true _ (unhide hS9)).mono ?_
            rintro e w1 ⟨rfl, hw0⟩
            have hw1 := hw0.symm
            subst hw1
            go_wp2
            go_round
            case rel => exact ⟨j + 1, by omega, by go_num, hnew⟩
            case measure => simp [intOf]; omega
          · have hS9 := hide (decide_eq_false f0)
            clear f0 hA
            go_wp2_with fail
            refine (slv_any x9 false _ (unhide hS9)).mono ?_
            rintro e w1 ⟨rfl, hw0⟩
            have hw1 := hw0.symm
            subst hw1
            go_wp2
            go_ret
            exact ⟨rfl, Below.refl _ _⟩
        · have hke : j = l.length := by omega
          exact absurd (crv_all h1' h2' (by have := unhide hA; rw [hke] at this; exact this)) (unhide hC')
    · have hS := hide (decide_eq_false hV)
      clear hV
      go_enter Try.func28, Try.ntmps28
      go_wp2_with fail
      refine (slv_any v false _ (unhide hS)).mono ?_
      rintro e w1 ⟨rfl, hw0⟩
      have hw1 := hw0.symm
      subst hw1
      go_wp2
      go_ret
      exact ⟨rfl, Below.refl _ _⟩
end Go.Proofs.Ytdmcbdogpeidjaa
