/-
  Contracts of the model's Update; nothing that was there is written.
-/
import Derived.Test.YtcgdcabmjihijaaTw
import Derived.Test.YtcgdcabmjihijaaUp1
import Derived.Test.YtcgdcabmjihijaaUpE
namespace Go.Proofs.Ytcgdcabmjihijaa
open Go.RowKit
set_option linter.unusedVariables false
set_option linter.unusedSimpArgs false

set_option maxRecDepth 100000 in
set_option maxHeartbeats 3200000 in
theorem sup_any (a b : Option Addr) (ca cb : Nat) (l m : List Kl) (w : World) (hl : l.length ≤ 1048576) (hm : m.length ≤ 1048576) (hzl : SzOk l) (hzm : SzOk m) (hc : ∀ x ∈ l, x.1.size ≤ 1048576) (hd : ∀ x ∈ m, x.1.size ≤ 1048576) (hk : Kls w a l) (hj : Kls w b m) :
    Calls Try.prog 7 #[.slice a l.length ca, .slice b m.length cb] w (AnU w (updS l m) (updG l m)) := by
  have T0 := hide (two_new w)
  have hk' := hide hk
  have hj' := hide hj
  have zl := hide hzl
  have zm := hide hzm
  have sc := hide hc
  have sd := hide hd
  have hlM : Hid (l.length ≤ maxLen) := hide (by unfold maxLen; omega)
  have hmM : Hid (m.length ≤ maxLen) := hide (by unfold maxLen; omega)
  obtain ⟨v1, hv1⟩ : ∃ v, pOk l = v := ⟨_, rfl⟩
  obtain ⟨v2, hv2⟩ : ∃ v, pOk m = v := ⟨_, rfl⟩
  have p1 := hide hv1
  have p2 := hide hv2
  have hU := hide (show updS l m = (if (v1 && v2) = true then sendL l m else []) ∧ updG l m = (if (v1 && v2) = true then goneL l m else []) by unfold updS updG; rw [hv1, hv2]; exact ⟨rfl, rfl⟩)
  clear hk hj hzl hzm hc hd hv1 hv2
  go_enter Try.func7, Try.ntmps7
  go_wp2_with fail
  refine (spk_any _ ca l _ (unhide hlM) (unhide zl) (kls_two (unhide hk') (unhide T0))).mono ?_
  rintro e w1 ⟨rfl, hb⟩
  rw [unhide p1]
  have T1 := hide ((unhide T0).below hb)
  clear hb T0
  cases v1 with
  | false =>
    go_wp2
    go_ret2
    rw [(unhide hU).1, (unhide hU).2]
    exact AnU.mk (unhide T1)
  | true =>
  have hl1 : l.length ≤ 100 := (pOk_parts (unhide p1)).1
  go_wp2_with fail
  refine (spk_any _ cb m _ (unhide hmM) (unhide zm) (kls_two (unhide hj') (unhide T1))).mono ?_
  rintro e w2 ⟨rfl, hb⟩
  rw [unhide p2]
  have T2 := hide ((unhide T1).below hb)
  clear hb T1
  cases v2 with
  | false =>
    go_wp2
    go_ret2
    rw [(unhide hU).1, (unhide hU).2]
    exact AnU.mk (unhide T2)
  | true =>
  have hm1 : m.length ≤ 100 := (pOk_parts (unhide p2)).1
  have hU1 := hide (show updS l m = sendL l m ∧ updG l m = goneL l m from unhide hU)
  clear hU
  go_wp2
  go_loopw [6, 8] (fun u t wr => ∃ (k g n c : Nat), k ≤ m.length ∧ n ≤ k ∧ t = .int .i64 k ∧ u = .slice (some ⟨g, 0, none⟩) n c ∧ Hid (Two w wr g n c (sendL l (m.take k)) (w.heap.size + 1) 0 0 [])) (fun _ t _ => m.length - (intOf t).toNat)
  case atStart => exact ⟨0, w.heap.size, 0, 0, by omega, by omega, rfl, rfl, T2⟩
  case round =>
    clear T2
    obtain ⟨k, g, n, c, hk1, hn1, rfl, rfl, T⟩ := hrel
    by_cases hlt : k < m.length
    · obtain ⟨x, hx⟩ : ∃ x, m[k]? = some x := ⟨m[k], List.getElem?_eq_getElem hlt⟩
      obtain ⟨bx, o, ea, i1, c0, c1, c2⟩ := kls_two (unhide hj') (unhide T) k x hx
      subst ea
      have hxs := unhide sd x (List.mem_of_getElem? hx)
      have g1 : decide ((k : Int) < m.length) = true := by simp; omega
      obtain ⟨s, p, q⟩ := x
      simp only at c0 c1 c2 hxs
      have hsn := send_snoc l (m.take k) (s, p, q)
      rw [← take_snocK hx] at hsn
      have hsn' := hide hsn
      have hkl := hide (kls_two (unhide hk') (unhide T))
      clear hx hsn
      go_wp2_with fail
      refine (sfnd_any a ca l s _ (unhide hlM) (unhide hkl)).mono ?_
      rintro e w3 ⟨r, rfl, hr, hw0⟩
      have hw1 := hw0.symm
      subst hw1
      rcases hr with ⟨rfl, hno⟩ | ⟨i, y, rfl, hy, hye⟩
      · have hK := fnd_no (x := (s, p, q)) hno
        rw [hK] at hsn'
        have hs2 := hide (show sendL l (m.take (k + 1)) = sendL l (m.take k) ++ [s] from unhide hsn')
        clear hK hno hsn'
        go_wp2_with fail
        go_quiet (fail)
        generalize hX : wr.drewN _ = X
        have TX := hide (show Two w X g n c (sendL l (m.take k)) (w.heap.size + 1) 0 0 [] by rw [← hX]; exact (unhide T).drew _)
        have y0 : X.cell? ⟨bx, o + k * 3, none⟩ = some (.string s) := by rw [← hX]; exact c0
        clear hX c0 c1 c2 T
        go_wp2_with (with_reducible refine wpList_sG X rfl _ _ rfl w.heap.size g n c (sendL l (m.take k)) s rfl (unhide TX).o1 rfl (by omega) (unhide TX).bel.size ?_)
        intro g' c' w' o' b' q1 q2
        have TY := hide (show Two w w' g' (n + 1) c' (sendL l (m.take (k + 1))) (w.heap.size + 1) 0 0 [] by rw [unhide hs2]; exact (unhide TX).app1 o' b' q2)
        clear o' b' TX
        go_wp2
        go_roundw
        case rel => exact ⟨k + 1, g', n + 1, c', by omega, by omega, by go_num, by go_num, TY⟩
        case measure => simp [intOf]; omega
      · obtain ⟨bo, oo, eo, j1, d0, d1, d2⟩ := unhide hkl i y hy
        subst eo
        have hil : i < l.length := (List.getElem?_eq_some_iff.1 hy).1
        have hK := fnd_yes (x := (s, p, q)) (unhide p1) hy hye
        obtain ⟨sy, py, qy⟩ := y
        simp only at d0 d1 d2
        have he := neq3 sy s py qy p q
        obtain ⟨v, hv⟩ : ∃ v, kEq (sy, py, qy) (s, p, q) = v := ⟨_, rfl⟩
        rw [hv] at he hK
        rw [hK] at hsn'
        have g2 : decide ((i : Int) < 0) = false := by simp
        have hil2 : (i : Int) < l.length := by omega
        clear hK hv hy hye
        cases v with
        | true =>
          have hs2 := hide (show sendL l (m.take (k + 1)) = sendL l (m.take k) from unhide hsn')
          clear hsn'
          go_wp2_with fail
          go_quiet (fail)
          generalize hX : wr.drewN _ = X
          have TX := hide (show Two w X g n c (sendL l (m.take (k + 1))) (w.heap.size + 1) 0 0 [] by rw [← hX, unhide hs2]; exact (unhide T).drew _)
          clear hX T
          go_wp2
          go_roundw
          case rel => exact ⟨k + 1, g, n, c, by omega, by omega, by go_num, rfl, TX⟩
          case measure => simp [intOf]; omega
        | false =>
          have hs2 := hide (show sendL l (m.take (k + 1)) = sendL l (m.take k) ++ [s] from unhide hsn')
          clear hsn'
          go_wp2_with fail
          go_quiet (fail)
          generalize hX : wr.drewN _ = X
          have TX := hide (show Two w X g n c (sendL l (m.take k)) (w.heap.size + 1) 0 0 [] by rw [← hX]; exact (unhide T).drew _)
          have y0 : X.cell? ⟨bx, o + k * 3, none⟩ = some (.string s) := by rw [← hX]; exact c0
          clear hX c0 c1 c2 T
          go_wp2_with (with_reducible refine wpList_sG X rfl _ _ rfl w.heap.size g n c (sendL l (m.take k)) s rfl (unhide TX).o1 rfl (by omega) (unhide TX).bel.size ?_)
          intro g' c' w' o' b' q1 q2
          have TY := hide (show Two w w' g' (n + 1) c' (sendL l (m.take (k + 1))) (w.heap.size + 1) 0 0 [] by rw [unhide hs2]; exact (unhide TX).app1 o' b' q2)
          clear o' b' TX
          go_wp2
          go_roundw
          case rel => exact ⟨k + 1, g', n + 1, c', by omega, by omega, by go_num, by go_num, TY⟩
          case measure => simp [intOf]; omega
    · have hke : Hid (k = m.length) := hide (by omega)
      have g1 : decide ((k : Int) < m.length) = false := by simp; omega
      have T3 := hide (show Two w wr g n c (sendL l m) (w.heap.size + 1) 0 0 [] by have := unhide T; rw [unhide hke, List.take_length] at this; exact this)
      clear T
      go_wp2
      rename World => wo
      go_loopw [7, 10] (fun u t wr => ∃ (k g2 n2 c2 : Nat), k ≤ l.length ∧ n2 ≤ k ∧ t = .int .i64 k ∧ u = .slice (some ⟨g2, 0, none⟩) n2 c2 ∧ Hid (Two w wr g n c (sendL l m) g2 n2 c2 (goneL (l.take k) m))) (fun _ t _ => l.length - (intOf t).toNat)
      case atStart => exact ⟨0, w.heap.size + 1, 0, 0, by omega, by omega, rfl, rfl, T3⟩
      case round =>
        clear T3
        obtain ⟨k2, g2, n2, c2, hk2, hn2, rfl, rfl, T⟩ := hrel
        by_cases hlt2 : k2 < l.length
        · obtain ⟨x, hx⟩ : ∃ x, l[k2]? = some x := ⟨l[k2], List.getElem?_eq_getElem hlt2⟩
          obtain ⟨bx, o, ea, i1, e0, e1, e2⟩ := kls_two (unhide hk') (unhide T) k2 x hx
          subst ea
          have hxs := unhide sc x (List.mem_of_getElem? hx)
          have gg : decide ((k2 : Int) < l.length) = true := by simp; omega
          obtain ⟨s, p, q⟩ := x
          simp only at e0 e1 e2 hxs
          have hsn := gone_snoc (l.take k2) m (s, p, q)
          rw [← take_snocK hx] at hsn
          have hsn' := hide hsn
          have hkl := hide (kls_two (unhide hj') (unhide T))
          clear hx hsn
          go_wp2_with fail
          refine (sfnd_any b cb m s _ (unhide hmM) (unhide hkl)).mono ?_
          rintro e w3 ⟨r, rfl, hr, hw0⟩
          have hw1 := hw0.symm
          subst hw1
          rcases hr with ⟨rfl, hno⟩ | ⟨i, y, rfl, hy, hye⟩
          · rw [show hasN m (s, p, q).1 = false from hno] at hsn'
            have hs2 := hide (show goneL (l.take (k2 + 1)) m = goneL (l.take k2) m ++ [s] from unhide hsn')
            clear hno hsn'
            go_wp2_with (with_reducible refine wpList_sG wr rfl _ _ rfl w.heap.size g2 n2 c2 (goneL (l.take k2) m) s rfl (unhide T).o2 rfl (by omega) (unhide T).bel.size ?_)
            intro g' c' w' o' b' q1 q2
            have TX := hide (show Two w w' g n c (sendL l m) g' (n2 + 1) c' (goneL (l.take (k2 + 1)) m) by rw [unhide hs2]; exact (unhide T).app2 o' b' q2)
            clear o' b'
            go_wp2
            go_roundw
            case rel => exact ⟨k2 + 1, g', n2 + 1, c', by omega, by omega, by go_num, by go_num, TX⟩
            case measure => simp [intOf]; omega
          · rw [show hasN m (s, p, q).1 = true from hasN_yes hy hye] at hsn'
            have hs2 := hide (show goneL (l.take (k2 + 1)) m = goneL (l.take k2) m from unhide hsn')
            have g2' : decide ((i : Int) < 0) = false := by simp
            clear hsn' hy hye
            have TX := hide (show Two w wr g n c (sendL l m) g2 n2 c2 (goneL (l.take (k2 + 1)) m) by rw [unhide hs2]; exact unhide T)
            go_wp2
            go_roundw
            case rel => exact ⟨k2 + 1, g2, n2, c2, by omega, by omega, by go_num, rfl, TX⟩
            case measure => simp [intOf]; omega
        · have hke2 : Hid (k2 = l.length) := hide (by omega)
          have gg : decide ((k2 : Int) < l.length) = false := by simp; omega
          have TX := hide (show Two w wr g n c (sendL l m) g2 n2 c2 (goneL l m) by have := unhide T; rw [unhide hke2, List.take_length] at this; exact this)
          clear T
          go_wp2
          go_ret2
          rw [(unhide hU1).1, (unhide hU1).2]
          exact AnU.mk (unhide TX)

end Go.Proofs.Ytcgdcabmjihijaa
