/-
  The contract of a search by halves in a package; nothing that was there is written.
  Contracts of the program's Update; nothing that was there is written.
  Contracts of the drawing functions of the model, over a cursor on bytes that came in: each answers, within its bounds, and writes into the cursor alone.
  The draws' state: a cursor over bytes that came in, and all else as it was; no conditions.
-/
import Derived.Test.YtghglpcfpokmhaaZPa
import Derived.Test.YtghglpcfpokmhaaZTw
import Derived.Test.YtghglpcfpokmhaaZBasA
namespace Go.Proofs.Ytghglpcfpokmhaa
open Go.RowKit
set_option linter.unusedVariables false
set_option linter.unusedSimpArgs false

set_option maxRecDepth 100000 in
set_option maxHeartbeats 3200000 in
theorem bs_any (a : Option Addr) (cap : Nat) (l : List Kl) (s : ByteArray) (p q : Int) (w : World) (hl : l.length ≤ 100) (hp : pOk l = true) (hk : Kls w a l) :
    Calls Try.prog 27 #[.slice a l.length cap, ag3 s p q, .func (.func 20) #[] #[]] w fun e w' => ∃ r : Int, e = .returned (.tuple #[.int .i64 r, .bool (hasN l s)]) ∧ Below w.heap.size w w' := by
  have hb0 : Below w.heap.size w (w.alloc (.cells #[.string s, .int .i64 p, .int .i64 q] 38)) := (Below.refl _ _).alloc (Nat.le_refl _) _
  have hk' := hide (hk.below hb0)
  have hb0' := hide hb0
  have hp' := hide hp
  obtain ⟨x0, x1, x2⟩ := @cel3 w (.string s) (.int .i64 p) (.int .i64 q) 38
  clear hk hb0 hp
  go_enter Try.func27, Try.ntmps27
  go_wp2
  generalize w.alloc (.cells #[.string s, .int .i64 p, .int .i64 q] 38) = X at *
  go_loopw [9, 10] (fun t u wr => ∃ i j : Nat, i ≤ j ∧ j ≤ l.length ∧ t = .int .i64 i ∧ u = .int .i64 j ∧ Hid (∀ (m : Nat) (y : Kl), m < i → l[m]? = some y → bef y.1 s = true) ∧ Hid (∀ (m : Nat) (y : Kl), j ≤ m → l[m]? = some y → bef y.1 s = false) ∧ Hid (Below X.heap.size X wr)) (fun t u _ => ((intOf u) - (intOf t)).toNat)
  case atStart => exact ⟨0, l.length, by omega, by omega, rfl, rfl, hide (fun m y h => by omega), hide (fun m y h hy => by have := (List.getElem?_eq_some_iff.1 hy).1; omega), hide (Below.refl _ _)⟩
  case round =>
    obtain ⟨i, j, hij, hj, rfl, rfl, h1, h2, hB⟩ := hrel
    by_cases hlt : i < j
    · obtain ⟨m, hm⟩ : ∃ m : Nat, ((i : Int) + j) / 2 = m ∧ i ≤ m ∧ m < j := ⟨(i + j) / 2, by omega, by omega, by omega⟩
      obtain ⟨hm, hm1, hm2⟩ := hm
      obtain ⟨y, hy⟩ : ∃ y, l[m]? = some y := ⟨l[m], List.getElem?_eq_getElem (by omega)⟩
      obtain ⟨b, o, rfl, i1, c0, c1, c2⟩ := unhide hk' m y hy
      obtain ⟨sy, py, qy⟩ := y
      simp only at c0 c1 c2
      have C := fun o => (bcell (unhide hB)).1 b o i1
      rw [← C] at c0 c1 c2
      have z0 := cell_later (unhide hB) x0
      have z1 := cell_later (unhide hB) x1
      have z2 := cell_later (unhide hB) x2
      have hml : m < l.length := by omega
      have hmI : (m : Int) < l.length := by omega
      have hm0 : (0 : Int) ≤ m := by omega
      have g1 : decide ((i : Int) < j) = true := by simp; omega
      have g1n : decide (i < j) = true := by simp; omega
      have hyy := hide hy
      have hcon := hide (fun w => bnm_any sy s py qy p q w)
      have hall := hide (show wr.cell? ⟨b, o + m * 3, none⟩ = some (.string sy) ∧ wr.cell? ⟨b, o + m * 3 + 1, none⟩ = some (.int .i64 py) ∧ wr.cell? ⟨b, o + m * 3 + 2, none⟩ = some (.int .i64 qy) ∧ wr.cell? ⟨w.heap.size, 0, none⟩ = some (.string s) ∧ wr.cell? ⟨w.heap.size, 1, none⟩ = some (.int .i64 p) ∧ wr.cell? ⟨w.heap.size, 2, none⟩ = some (.int .i64 q) ∧ Below X.heap.size X wr from ⟨c0, c1, c2, z0, z1, z2, unhide hB⟩)
      obtain ⟨v, hv⟩ : ∃ v, bef sy s = v := ⟨_, rfl⟩
      have hv' := hide hv
      clear hy C hv
      cases v with
      | true =>
        rw [cmp_lt (unhide hv')] at hcon
        have hn := hide (show ∀ (k : Nat) (y : Kl), k < m + 1 → l[k]? = some y → bef y.1 s = true from fun k y hk hy => by
          rcases Nat.lt_or_ge k m with h | h
          · exact bef_trans (rise (unhide hp') h hy (unhide hyy)) (unhide hv')
          · have : k = m := by omega
            subst this
            rw [unhide hyy] at hy; injection hy with hy; subst hy; exact unhide hv')
        clear h1
        go_wp2_with fail
        go_region_held3 (fun w' => w'.cell? ⟨b, o + m * 3, none⟩ = some (.string sy) ∧ w'.cell? ⟨b, o + m * 3 + 1, none⟩ = some (.int .i64 py) ∧ w'.cell? ⟨b, o + m * 3 + 2, none⟩ = some (.int .i64 qy) ∧ w'.cell? ⟨w.heap.size, 0, none⟩ = some (.string s) ∧ w'.cell? ⟨w.heap.size, 1, none⟩ = some (.int .i64 p) ∧ w'.cell? ⟨w.heap.size, 2, none⟩ = some (.int .i64 q) ∧ Below X.heap.size X w')
          (first | (refine keepN ?_ hb; assumption) | (exact keepNd (unhide hall)))
          ((go_at_call 20; refine (unhide hcon _).mono ?_; rintro e w1 ⟨rfl, hb⟩))
        rename_i hH
        have hB2 := hide hH.2.2.2.2.2.2
        clear hH
        go_wp2
        go_roundw
        case rel => exact ⟨m + 1, j, by omega, by omega, by go_num, rfl, hn, h2, hB2⟩
        case measure => simp [intOf]; omega
      | false =>
        have hge : 0 ≤ cmpV sy s := by unfold cmpV; rw [unhide hv']; simp; split <;> omega
        have g2 : decide (cmpV sy s < 0) = false := by simp; omega
        have hn := hide (show ∀ (k : Nat) (y : Kl), m ≤ k → l[k]? = some y → bef y.1 s = false from fun k y hk hy => by
          rcases Nat.lt_or_ge m k with h | h
          · cases hz : bef y.1 s with
            | false => rfl
            | true =>
              have := bef_trans (rise (unhide hp') h (unhide hyy) hy) hz
              rw [unhide hv'] at this; cases this
          · have : k = m := by omega
            subst this
            rw [unhide hyy] at hy; injection hy with hy; subst hy; exact unhide hv')
        clear h2 hge
        generalize cmpV sy s = cv at *
        go_wp2_with fail
        go_region_held3 (fun w' => w'.cell? ⟨b, o + m * 3, none⟩ = some (.string sy) ∧ w'.cell? ⟨b, o + m * 3 + 1, none⟩ = some (.int .i64 py) ∧ w'.cell? ⟨b, o + m * 3 + 2, none⟩ = some (.int .i64 qy) ∧ w'.cell? ⟨w.heap.size, 0, none⟩ = some (.string s) ∧ w'.cell? ⟨w.heap.size, 1, none⟩ = some (.int .i64 p) ∧ w'.cell? ⟨w.heap.size, 2, none⟩ = some (.int .i64 q) ∧ Below X.heap.size X w')
          (first | (refine keepN ?_ hb; assumption) | (exact keepNd (unhide hall)))
          ((go_at_call 20; refine (unhide hcon _).mono ?_; rintro e w1 ⟨rfl, hb⟩))
        rename_i hH
        have hB2 := hide hH.2.2.2.2.2.2
        clear hH
        go_wp2
        go_roundw
        case rel => exact ⟨i, m, by omega, by omega, rfl, by go_num, h1, hn, hB2⟩
        case measure => simp [intOf]; omega
    · have hije : i = j := by omega
      subst hije
      have g1 : decide ((i : Int) < i) = false := by simp
      obtain ⟨f1, f2⟩ := bs_found (unhide hp') (unhide h1) (unhide h2)
      by_cases hil : i < l.length
      · obtain ⟨y, hy⟩ : ∃ y, l[i]? = some y := ⟨l[i], List.getElem?_eq_getElem hil⟩
        have hfn := hide (f1 hil y hy)
        obtain ⟨b, o, rfl, i1, c0, c1, c2⟩ := unhide hk' i y hy
        have hge := unhide h2 i y (Nat.le_refl _) hy
        obtain ⟨sy, py, qy⟩ := y
        simp only at c0 c1 c2 hge hfn
        have C := fun o => (bcell (unhide hB)).1 b o i1
        rw [← C] at c0 c1 c2
        have z0 := cell_later (unhide hB) x0
        have z1 := cell_later (unhide hB) x1
        have z2 := cell_later (unhide hB) x2
        have g3 : decide ((i : Int) < l.length) = true := by simp; omega
        have g3n : decide (i < l.length) = true := by simp; omega
        have hcon := hide (fun w => bnm_any sy s py qy p q w)
        have hcv := hide (show (cmpV sy s == 0) = hasN l s by
          rw [unhide hfn]
          have ht := bef_le sy s
          have hb1 : Op.bytesLess sy.toList s.toList = false := hge
          rw [hb1] at ht
          unfold cmpV
          rw [hge]
          cases hz : bef s sy <;> (rw [hz] at ht; simp at ht; simp [ht]))
        clear f1 f2 hy C h1 h2 hfn
        have hall := hide (show wr.cell? ⟨b, o + i * 3, none⟩ = some (.string sy) ∧ wr.cell? ⟨b, o + i * 3 + 1, none⟩ = some (.int .i64 py) ∧ wr.cell? ⟨b, o + i * 3 + 2, none⟩ = some (.int .i64 qy) ∧ wr.cell? ⟨w.heap.size, 0, none⟩ = some (.string s) ∧ wr.cell? ⟨w.heap.size, 1, none⟩ = some (.int .i64 p) ∧ wr.cell? ⟨w.heap.size, 2, none⟩ = some (.int .i64 q) ∧ Below X.heap.size X wr from ⟨c0, c1, c2, z0, z1, z2, unhide hB⟩)
        have hm0 : (0 : Int) ≤ i := by omega
        generalize cmpV sy s = cv at *
        go_wp2_with fail
        go_region_held3 (fun w' => w'.cell? ⟨b, o + i * 3, none⟩ = some (.string sy) ∧ w'.cell? ⟨b, o + i * 3 + 1, none⟩ = some (.int .i64 py) ∧ w'.cell? ⟨b, o + i * 3 + 2, none⟩ = some (.int .i64 qy) ∧ w'.cell? ⟨w.heap.size, 0, none⟩ = some (.string s) ∧ w'.cell? ⟨w.heap.size, 1, none⟩ = some (.int .i64 p) ∧ w'.cell? ⟨w.heap.size, 2, none⟩ = some (.int .i64 q) ∧ Below X.heap.size X w')
          (first | (refine keepN ?_ hb; assumption) | (exact keepNd (unhide hall)))
          ((go_at_call 20; refine (unhide hcon _).mono ?_; rintro e w1 ⟨rfl, hb⟩))
        rename_i hH
        have hB2 := hide hH.2.2.2.2.2.2
        clear hH
        go_wp2
        go_ret2
        exact ⟨(i : Int), by rw [unhide hcv]; rfl, laterB (unhide hb0') (unhide hB2)⟩
      · have g3 : decide ((i : Int) < l.length) = false := by simp; omega
        have g3n : decide (i < l.length) = false := by simp; omega
        have hfn := hide (f2 hil)
        clear f1 f2 h1 h2
        go_wp2_with fail
        go_quiet (fail)
        go_wp2
        go_ret2
        exact ⟨(i : Int), by rw [unhide hfn]; rfl, laterB (unhide hb0') (below_drewN (unhide hB) _)⟩

end Go.Proofs.Ytghglpcfpokmhaa

namespace Go.Proofs.Ytghglpcfpokmhaa
open Go.RowKit
set_option linter.unusedVariables false
set_option linter.unusedSimpArgs false

set_option maxRecDepth 100000 in
set_option maxHeartbeats 3200000 in
theorem iup_any (a b : Option Addr) (ca cb : Nat) (l m : List Kl) (w : World) (hl : l.length ≤ 1048576) (hm : m.length ≤ 1048576) (hzl : SzOk l) (hzm : SzOk m) (hc : ∀ x ∈ l, x.1.size ≤ 1048576) (hd : ∀ x ∈ m, x.1.size ≤ 1048576) (hk : Kls w a l) (hj : Kls w b m) :
    Calls Try.prog 10 #[.slice a l.length ca, .slice b m.length cb] w (AnU w (updS l m) (updG l m)) := by
  have T0 := hide (two_new w)
  have hk' := hide hk
  have hj' := hide hj
  have zl := hide hzl
  have zm := hide hzm
  have sc := hide hc
  have sd := hide hd
  have hlM : Hid (l.length ≤ maxLen) := hide (by unfold maxLen; omega)
  have hmM : Hid (m.length ≤ maxLen) := hide (by unfold maxLen; omega)
  obtain ⟨v1, hv1⟩ : ∃ v, pOk l = v := ⟨_, rfl⟩
  obtain ⟨v2, hv2⟩ : ∃ v, pOk m = v := ⟨_, rfl⟩
  have p1 := hide hv1
  have p2 := hide hv2
  have hU := hide (show updS l m = (if (v1 && v2) = true then sendL l m else []) ∧ updG l m = (if (v1 && v2) = true then goneL l m else []) by unfold updS updG; rw [hv1, hv2]; exact ⟨rfl, rfl⟩)
  clear hk hj hzl hzm hc hd hv1 hv2
  go_enter Try.func10, Try.ntmps10
  go_wp2_with fail
  refine (ipk_any _ ca l _ (unhide hlM) (unhide zl) (kls_two (unhide hk') (unhide T0))).mono ?_
  rintro e w1 ⟨rfl, hb⟩
  rw [unhide p1]
  have T1 := hide ((unhide T0).below hb)
  clear hb T0
  cases v1 with
  | false =>
    go_wp2
    go_ret2
    rw [(unhide hU).1, (unhide hU).2]
    exact AnU.mk (unhide T1)
  | true =>
  have hl1 : l.length ≤ 100 := (pOk_parts (unhide p1)).1
  go_wp2_with fail
  refine (ipk_any _ cb m _ (unhide hmM) (unhide zm) (kls_two (unhide hj') (unhide T1))).mono ?_
  rintro e w2 ⟨rfl, hb⟩
  rw [unhide p2]
  have T2 := hide ((unhide T1).below hb)
  clear hb T1
  cases v2 with
  | false =>
    go_wp2
    go_ret2
    rw [(unhide hU).1, (unhide hU).2]
    exact AnU.mk (unhide T2)
  | true =>
  have hm1 : m.length ≤ 100 := (pOk_parts (unhide p2)).1
  have hU1 := hide (show updS l m = sendL l m ∧ updG l m = goneL l m from unhide hU)
  clear hU
  go_wp2
  go_loopw [6, 28] (fun u t wr => ∃ (k g n c : Nat), k ≤ m.length ∧ n ≤ k ∧ t = .int .i64 k ∧ u = .slice (some ⟨g, 0, none⟩) n c ∧ Hid (Two w wr g n c (sendL l (m.take k)) (w.heap.size + 1) 0 0 [])) (fun _ t _ => m.length - (intOf t).toNat)
  case atStart => exact ⟨0, w.heap.size, 0, 0, by omega, by omega, rfl, rfl, T2⟩
  case round =>
    clear T2
    obtain ⟨k, g, n, c, hk1, hn1, rfl, rfl, T⟩ := hrel
    by_cases hlt : k < m.length
    · obtain ⟨x, hx⟩ : ∃ x, m[k]? = some x := ⟨m[k], List.getElem?_eq_getElem hlt⟩
      obtain ⟨bx, o, ea, i1, c0, c1, c2⟩ := kls_two (unhide hj') (unhide T) k x hx
      subst ea
      have hxs := unhide sd x (List.mem_of_getElem? hx)
      have g1 : decide ((k : Int) < m.length) = true := by simp; omega
      obtain ⟨s, p, q⟩ := x
      simp only at c0 c1 c2 hxs
      have hsn := send_snoc l (m.take k) (s, p, q)
      rw [← take_snocK hx] at hsn
      have hsn' := hide hsn
      have hX := (unhide T).below ((Below.refl wr.heap.size wr).alloc (Nat.le_refl _) (.cells #[.string s, .int .i64 p, .int .i64 q] 38))
      have TX := hide hX
      obtain ⟨x0, x1, x2⟩ := @cel3 wr (.string s) (.int .i64 p) (.int .i64 q) 38
      have hkl := hide (kls_two (unhide hk') hX)
      have hzz := hide (show wr.heap.size < (wr.alloc (.cells #[.string s, .int .i64 p, .int .i64 q] 38)).heap.size by simp)
      clear hx hsn hX T
      go_wp2_with fail
      generalize hXX : wr.alloc (.cells #[.string s, .int .i64 p, .int .i64 q] 38) = X at *
      refine (con_any a ca l s p q _ (unhide hlM) (unhide hkl)).mono ?_
      rintro e w3 ⟨rfl, hb⟩
      have T3 := hide ((unhide TX).below hb)
      have y0 := cell_later hb x0
      clear TX hkl x0 x1 x2 hb hXX
      obtain ⟨v, hv⟩ : ∃ v, hasK l (s, p, q) = v := ⟨_, rfl⟩
      rw [hv] at hsn' ⊢
      clear hv
      cases v with
      | true =>
        have TY := hide (show Two w w3 g n c (sendL l (m.take (k + 1))) (w.heap.size + 1) 0 0 [] by rw [unhide hsn']; exact unhide T3)
        clear T3 hsn'
        go_wp2
        go_roundw
        case rel => exact ⟨k + 1, g, n, c, by omega, by omega, by go_num, rfl, TY⟩
        case measure => simp [intOf]; omega
      | false =>
        have hs2 := hide (show sendL l (m.take (k + 1)) = sendL l (m.take k) ++ [s] from unhide hsn')
        clear hsn'
        go_wp2_with fail
        refine (clone_any s _ hxs).mono ?_
        rintro e w4 ⟨rfl, hb⟩
        have T4 := hide ((unhide T3).below hb)
        clear T3 hb y0
        go_wp2_with (with_reducible refine wpList_sG w4 rfl _ _ rfl w.heap.size g n c (sendL l (m.take k)) s rfl (unhide T4).o1 rfl (by omega) (unhide T4).bel.size ?_)
        intro g' c' w' o' b' q1 q2
        have TY := hide (show Two w w' g' (n + 1) c' (sendL l (m.take (k + 1))) (w.heap.size + 1) 0 0 [] by rw [unhide hs2]; exact (unhide T4).app1 o' b' q2)
        clear o' b' T4
        go_wp2
        go_roundw
        case rel => exact ⟨k + 1, g', n + 1, c', by omega, by omega, by go_num, by go_num, TY⟩
        case measure => simp [intOf]; omega
    · have hke : Hid (k = m.length) := hide (by omega)
      have g1 : decide ((k : Int) < m.length) = false := by simp; omega
      have T3 := hide (show Two w wr g n c (sendL l m) (w.heap.size + 1) 0 0 [] by have := unhide T; rw [unhide hke, List.take_length] at this; exact this)
      clear T
      go_wp2
      rename World => wo
      go_loopw [7, 45] (fun u t wr => ∃ (k g2 n2 c2 : Nat), k ≤ l.length ∧ n2 ≤ k ∧ t = .int .i64 k ∧ u = .slice (some ⟨g2, 0, none⟩) n2 c2 ∧ Hid (Two w wr g n c (sendL l m) g2 n2 c2 (goneL (l.take k) m))) (fun _ t _ => l.length - (intOf t).toNat)
      case atStart => exact ⟨0, w.heap.size + 1, 0, 0, by omega, by omega, rfl, rfl, T3⟩
      case round =>
        clear T3
        obtain ⟨k2, g2, n2, c2, hk2, hn2, rfl, rfl, T⟩ := hrel
        by_cases hlt2 : k2 < l.length
        · obtain ⟨x, hx⟩ : ∃ x, l[k2]? = some x := ⟨l[k2], List.getElem?_eq_getElem hlt2⟩
          obtain ⟨bx, o, ea, i1, e0, e1, e2⟩ := kls_two (unhide hk') (unhide T) k2 x hx
          subst ea
          have hxs := unhide sc x (List.mem_of_getElem? hx)
          have gg : decide ((k2 : Int) < l.length) = true := by simp; omega
          obtain ⟨s, p, q⟩ := x
          simp only at e0 e1 e2 hxs
          have hsn := gone_snoc (l.take k2) m (s, p, q)
          rw [← take_snocK hx] at hsn
          have hsn' := hide hsn
          have hX := (unhide T).below ((Below.refl wr.heap.size wr).alloc (Nat.le_refl _) (.cells #[.string s, .int .i64 p, .int .i64 q] 38))
          have TX := hide hX
          obtain ⟨x0, x1, x2⟩ := @cel3 wr (.string s) (.int .i64 p) (.int .i64 q) 38
          have hkl := hide (kls_two (unhide hj') hX)
          have hzz := hide (show wr.heap.size < (wr.alloc (.cells #[.string s, .int .i64 p, .int .i64 q] 38)).heap.size by simp)
          clear hx hsn hX T
          go_wp2_with fail
          generalize hXX : wr.alloc (.cells #[.string s, .int .i64 p, .int .i64 q] 38) = X at *
          refine (bs_any b cb m s p q _ hm1 (unhide p2) (unhide hkl)).mono ?_
          rintro e w3 ⟨r, rfl, hb⟩
          have T4 := hide ((unhide TX).below hb)
          have y0 := cell_later hb x0
          clear TX hkl x0 x1 x2 hb hXX
          obtain ⟨v, hv⟩ : ∃ v, hasN m s = v := ⟨_, rfl⟩
          rw [show hasN m (s, p, q).1 = v from hv] at hsn'
          rw [hv]
          clear hv
          cases v with
          | true =>
            have TY := hide (show Two w w3 g n c (sendL l m) g2 n2 c2 (goneL (l.take (k2 + 1)) m) by rw [unhide hsn']; exact unhide T4)
            clear T4 hsn'
            go_wp2
            go_roundw
            case rel => exact ⟨k2 + 1, g2, n2, c2, by omega, by omega, by go_num, rfl, TY⟩
            case measure => simp [intOf]; omega
          | false =>
            have hs2 := hide (show goneL (l.take (k2 + 1)) m = goneL (l.take k2) m ++ [s] from unhide hsn')
            clear hsn'
            go_wp2_with fail
            refine (clone_any s _ hxs).mono ?_
            rintro e w4 ⟨rfl, hb⟩
            have T5 := hide ((unhide T4).below hb)
            clear T4 hb y0
            go_wp2_with (with_reducible refine wpList_sG w4 rfl _ _ rfl w.heap.size g2 n2 c2 (goneL (l.take k2) m) s rfl (unhide T5).o2 rfl (by omega) (unhide T5).bel.size ?_)
            intro g' c' w' o' b' q1 q2
            have TY := hide (show Two w w' g n c (sendL l m) g' (n2 + 1) c' (goneL (l.take (k2 + 1)) m) by rw [unhide hs2]; exact (unhide T5).app2 o' b' q2)
            clear o' b' T5
            go_wp2
            go_roundw
            case rel => exact ⟨k2 + 1, g', n2 + 1, c', by omega, by omega, by go_num, by go_num, TY⟩
            case measure => simp [intOf]; omega
        · have hke2 : Hid (k2 = l.length) := hide (by omega)
          have gg : decide ((k2 : Int) < l.length) = false := by simp; omega
          have TX := hide (show Two w wr g n c (sendL l m) g2 n2 c2 (goneL l m) by have := unhide T; rw [unhide hke2, List.take_length] at this; exact this)
          clear T
          go_wp2
          go_ret2
          rw [(unhide hU1).1, (unhide hU1).2]
          exact AnU.mk (unhide TX)

end Go.Proofs.Ytghglpcfpokmhaa

namespace Go.Proofs.Ytghglpcfpokmhaa
open Go.RowKit
set_option linter.unusedVariables false

/-- a cursor in block g over the slice a, len, cap -/
def CurAt (w : World) (g : Nat) (a : Option Addr) (len cap : Nat) : Prop :=
  ∃ i h : Int, w.cell? ⟨g, 0, none⟩ = some (.slice a len cap) ∧ w.cell? ⟨g, 1, none⟩ = some (.int .i64 i) ∧ w.cell? ⟨g, 2, none⟩ = some (.int .i64 h) ∧ w.frozen? ⟨g, 1, none⟩ = false ∧ w.frozen? ⟨g, 2, none⟩ = false ∧ 0 ≤ i ∧ i ≤ len
/-- its bytes, in blocks below B -/
def RdB (w : World) (B : Nat) (a : Option Addr) (len : Nat) : Prop :=
  ∀ j, j < len → ∃ (b o : Nat) (z : Int), a = some ⟨b, o, none⟩ ∧ b < B ∧ w.cell? ⟨b, o + j, none⟩ = some (.int .u8 z) ∧ 0 ≤ z ∧ z ≤ 255

theorem grown_belowD {w w1 : World} {g : Option Nat} (h : Below w.heap.size w w1) : w.grownBy w1 g :=
  ⟨h.os, h.tape, h.output, h.size, fun j hj _ => h.block j hj⟩
theorem grown_drewN {w w1 : World} {g : Option Nat} (h : w.grownBy w1 g) (n : Nat) : w.grownBy (w1.drewN n) g :=
  grown_trans h ⟨rfl, rfl, rfl, Nat.le_refl _, fun _ _ _ => rfl⟩
theorem RdB.grown {w w1 : World} {B : Nat} {a : Option Addr} {len g : Nat} (h : RdB w B a len) (hg : w.grownBy w1 (some g)) (hB : B ≤ g) : RdB w1 B a len := by
  intro j hj
  obtain ⟨b, o, z, e, hb, hc, h0, h1⟩ := h j hj
  exact ⟨b, o, z, e, hb, hg.cell hc (by intro he; have := Option.some.inj he; simp at this; omega), h0, h1⟩

theorem and255 (n : Int) : 0 ≤ bits .and .i64 n 255 ∧ bits .and .i64 n 255 ≤ 255 := by
  have h : bits .and .i64 n 255 = IntKind.i64.wrap ((BitVec.ofInt 64 n &&& BitVec.ofInt 64 255).toNat : Int) := rfl
  have h2 : (BitVec.ofInt 64 n &&& BitVec.ofInt 64 255).toNat ≤ 255 := by
    rw [BitVec.toNat_and]
    have : (BitVec.ofInt 64 255).toNat = 255 := by decide
    rw [this]; exact Nat.and_le_right
  rw [h, IntKind.wrap_i64]
  omega

theorem ne_off {g i j : Nat} (h : i ≠ j) : (⟨g, i, none⟩ : Addr) ≠ ⟨g, j, none⟩ := by intro e; injection e with _ e2 _; exact h e2
theorem cur_end {w : World} {g : Nat} {a : Option Addr} {len cap q : Nat} {i h h1 : Int} (c0 : w.cell? ⟨g, 0, none⟩ = some (.slice a len cap)) (c1 : w.cell? ⟨g, 1, none⟩ = some (.int .i64 i)) (c2 : w.cell? ⟨g, 2, none⟩ = some (.int .i64 h))
    (f1 : w.frozen? ⟨g, 1, none⟩ = false) (f2 : w.frozen? ⟨g, 2, none⟩ = false) (i0 : 0 ≤ i) (i1 : i ≤ len) : CurAt ((w.setCell ⟨g, 2, none⟩ (.int .i64 h1)).drewN q) g a len cap := by
  refine ⟨i, h1, ?_, ?_, ?_, ?_, ?_, i0, i1⟩
  · show (w.setCell ⟨g, 2, none⟩ (.int .i64 h1)).cell? _ = _
    rw [World.cell?_setCell_other _ _ _ _ (ne_off (by decide))]; exact c0
  · show (w.setCell ⟨g, 2, none⟩ (.int .i64 h1)).cell? _ = _
    rw [World.cell?_setCell_other _ _ _ _ (ne_off (by decide))]; exact c1
  · show (w.setCell ⟨g, 2, none⟩ (.int .i64 h1)).cell? _ = _
    exact World.cell?_setCell_same _ _ _ c2
  · show (w.setCell ⟨g, 2, none⟩ (.int .i64 h1)).frozen? _ = _
    rw [World.frozen?_setCell]; exact f1
  · show (w.setCell ⟨g, 2, none⟩ (.int .i64 h1)).frozen? _ = _
    rw [World.frozen?_setCell]; exact f2
theorem cur_next {w : World} {g : Nat} {a : Option Addr} {len cap : Nat} {i : Int} (h : CurAt w g a len cap) (i0 : 0 ≤ i) (i1 : i ≤ len) : CurAt (w.setCell ⟨g, 1, none⟩ (.int .i64 i)) g a len cap := by
  obtain ⟨i', h1, c0, c1, c2, f1, f2, _, _⟩ := h
  refine ⟨i, h1, ?_, ?_, ?_, ?_, ?_, i0, i1⟩
  · rw [World.cell?_setCell_other _ _ _ _ (ne_off (by decide))]; exact c0
  · exact World.cell?_setCell_same _ _ _ c1
  · rw [World.cell?_setCell_other _ _ _ _ (ne_off (by decide))]; exact c2
  · rw [World.frozen?_setCell]; exact f1
  · rw [World.frozen?_setCell]; exact f2
theorem CurAt.other {w w1 : World} {g : Nat} {a : Option Addr} {len cap : Nat} (h : CurAt w g a len cap) (hb : w1.heap[g]? = w.heap[g]?) : CurAt w1 g a len cap := by
  obtain ⟨i, h1, c0, c1, c2, f1, f2, i0, i1⟩ := h
  exact ⟨i, h1, (World.cell?_of_block (a := ⟨g, 0, none⟩) hb).trans c0, (World.cell?_of_block (a := ⟨g, 1, none⟩) hb).trans c1, (World.cell?_of_block (a := ⟨g, 2, none⟩) hb).trans c2, (World.frozen?_of_block (a := ⟨g, 1, none⟩) hb).trans f1, (World.frozen?_of_block (a := ⟨g, 2, none⟩) hb).trans f2, i0, i1⟩
theorem CurAt.lt {w : World} {g : Nat} {a : Option Addr} {len cap : Nat} (h : CurAt w g a len cap) : g < w.heap.size := by
  obtain ⟨i, h1, c0, _⟩ := h
  exact World.block_lt_of_cell? _ _ c0
theorem CurAt.below {w w1 : World} {g : Nat} {a : Option Addr} {len cap : Nat} (h : CurAt w g a len cap) (hb : Below w.heap.size w w1) : CurAt w1 g a len cap := h.other (hb.block g h.lt)

set_option maxHeartbeats 800000 in
theorem byte_more (g : Nat) (b o len cap : Nat) (i h z : Int) (w : World) (c0 : w.cell? ⟨g, 0, none⟩ = some (.slice (some ⟨b, o, none⟩) len cap)) (c1 : w.cell? ⟨g, 1, none⟩ = some (.int .i64 i)) (c2 : w.cell? ⟨g, 2, none⟩ = some (.int .i64 h))
    (f1 : w.frozen? ⟨g, 1, none⟩ = false) (f2 : w.frozen? ⟨g, 2, none⟩ = false) (i0 : 0 ≤ i) (i1 : i < len) (hl : len ≤ 9223372036854775807) (hbg : b ≠ g) (hz : w.cell? ⟨b, o + i.toNat, none⟩ = some (.int .u8 z)) (z0 : 0 ≤ z) (z1 : z ≤ 255) :
    Calls Try.prog 29 #[.pointer (some ⟨g, 0, none⟩)] w fun e w' => ∃ x, e = .returned (.int .i64 x) ∧ 0 ≤ x ∧ x ≤ 255 ∧ CurAt w' g (some ⟨b, o, none⟩) len cap ∧ w.grownBy w' (some g) := by
  obtain ⟨n, rfl⟩ := Int.eq_ofNat_of_zero_le i0
  rw [Int.toNat_natCast] at hz
  go_enter Try.func29, Try.ntmps29
  go_wp2
  generalize wrap64 (wrap64 (h * 6364136223846793005) + 1442695040888963407) = h1
  have hz' : (w.setCell ⟨g, 2, none⟩ (.int .i64 h1)).cell? ⟨b, o + n, none⟩ = some (.int .u8 z) := by
    rw [World.cell?_setCell_other _ _ _ _ (by intro e; injection e with e1 _ _; exact hbg e1.symm)]; exact hz
  go_quiet (fail)
  go_wp2
  obtain ⟨x0, x1⟩ := and255 (bits BinOp.xor IntKind.i64 (h1 / 8589934592) (h1 / 35184372088832))
  generalize bits BinOp.and IntKind.i64 (bits BinOp.xor IntKind.i64 (h1 / 8589934592) (h1 / 35184372088832)) 255 = x at *
  go_quiet (fail)
  go_wp2
  go_quiet (fail)
  go_wp2
  go_ret
  exact ⟨_, rfl, (and255 _).1, (and255 _).2, cur_next (cur_end c0 c1 c2 f1 f2 i0 (by omega)) (by omega) (by omega), grown_set (grown_drewN (grown_set (World.grownBy.refl _ _)) _)⟩

set_option maxHeartbeats 800000 in
theorem byte_last (g : Nat) (a : Option Addr) (len cap : Nat) (i h : Int) (w : World) (c0 : w.cell? ⟨g, 0, none⟩ = some (.slice a len cap)) (c1 : w.cell? ⟨g, 1, none⟩ = some (.int .i64 i)) (c2 : w.cell? ⟨g, 2, none⟩ = some (.int .i64 h))
    (f1 : w.frozen? ⟨g, 1, none⟩ = false) (f2 : w.frozen? ⟨g, 2, none⟩ = false) (i0 : 0 ≤ i) (i1 : i ≤ len) (i2 : ¬ i < len) (hl : len ≤ 9223372036854775807) :
    Calls Try.prog 29 #[.pointer (some ⟨g, 0, none⟩)] w fun e w' => ∃ x, e = .returned (.int .i64 x) ∧ 0 ≤ x ∧ x ≤ 255 ∧ CurAt w' g a len cap ∧ w.grownBy w' (some g) := by
  go_enter Try.func29, Try.ntmps29
  go_wp2
  generalize wrap64 (wrap64 (h * 6364136223846793005) + 1442695040888963407) = h1
  go_quiet (fail)
  go_wp2
  obtain ⟨x0, x1⟩ := and255 (bits BinOp.xor IntKind.i64 (h1 / 8589934592) (h1 / 35184372088832))
  generalize bits BinOp.and IntKind.i64 (bits BinOp.xor IntKind.i64 (h1 / 8589934592) (h1 / 35184372088832)) 255 = x at *
  go_quiet (fail)
  go_wp2
  go_ret
  exact ⟨x, rfl, x0, x1, by rw [World.drewN_drewN]; exact cur_end c0 c1 c2 f1 f2 i0 (by omega), grown_drewN (grown_drewN (grown_set (World.grownBy.refl _ _)) _) _⟩

theorem byte_any (B g : Nat) (a : Option Addr) (len cap : Nat) (w : World) (hB : B ≤ g) (hl : len ≤ 9223372036854775807) (hc : CurAt w g a len cap) (hr : RdB w B a len) :
    Calls Try.prog 29 #[.pointer (some ⟨g, 0, none⟩)] w fun e w' => ∃ x, e = .returned (.int .i64 x) ∧ 0 ≤ x ∧ x ≤ 255 ∧ CurAt w' g a len cap ∧ w.grownBy w' (some g) := by
  obtain ⟨i, h, c0, c1, c2, f1, f2, i0, i1⟩ := hc
  by_cases i2 : i < len
  · obtain ⟨b, o, z, rfl, hb, hz, z0, z1⟩ := hr i.toNat (by omega)
    exact byte_more g b o len cap i h z w c0 c1 c2 f1 f2 i0 i2 hl (by omega) hz z0 z1
  · exact byte_last g a len cap i h w c0 c1 c2 f1 f2 i0 i1 i2 hl

set_option maxHeartbeats 800000 in
theorem below_any (B g : Nat) (a : Option Addr) (len cap : Nat) (n : Int) (w : World) (hB : B ≤ g) (hl : len ≤ 9223372036854775807) (hc : CurAt w g a len cap) (hr : RdB w B a len) (n0 : 0 < n) :
    Calls Try.prog 15 #[.pointer (some ⟨g, 0, none⟩), .int .i64 n] w fun e w' => ∃ x, e = .returned (.int .i64 x) ∧ 0 ≤ x ∧ x < n ∧ CurAt w' g a len cap ∧ w.grownBy w' (some g) := by
  have hc' := hide hc
  have hr' := hide hr
  clear hc hr
  by_cases h : n ≤ 256
  · go_enter Try.func15, Try.ntmps15
    go_wp2_with fail
    refine (byte_any B g a len cap _ hB hl (unhide hc') (unhide hr')).mono ?_
    rintro e w1 ⟨x, rfl, x0, x1, k1, g1⟩
    go_wp2
    go_ret
    exact ⟨_, rfl, Int.emod_nonneg _ (by omega), Int.emod_lt_of_pos _ n0, k1, g1⟩
  · go_enter Try.func15, Try.ntmps15
    go_wp2_with fail
    refine (byte_any B g a len cap _ hB hl (unhide hc') (unhide hr')).mono ?_
    rintro e w1 ⟨x, rfl, x0, x1, k1, g1⟩
    have r1 := (unhide hr').grown g1 hB
    have k1' := hide k1
    have r1' := hide r1
    clear k1 r1
    go_wp2_with fail
    refine (byte_any B g a len cap _ hB hl (unhide k1') (unhide r1')).mono ?_
    rintro e w2 ⟨y, rfl, y0, y1, k2, g2⟩
    have r2 := (unhide r1').grown g2 hB
    have k2' := hide k2
    have r2' := hide r2
    clear k2 r2
    go_wp2_with fail
    refine (byte_any B g a len cap _ hB hl (unhide k2') (unhide r2')).mono ?_
    rintro e w3 ⟨z, rfl, z0, z1, k3, g3⟩
    have r3 := (unhide r2').grown g3 hB
    have k3' := hide k3
    have r3' := hide r3
    clear k3 r3
    go_wp2_with fail
    refine (byte_any B g a len cap _ hB hl (unhide k3') (unhide r3')).mono ?_
    rintro e w4 ⟨v, rfl, v0, v1, k4, g4⟩
    go_wp2
    go_ret
    exact ⟨_, rfl, Int.emod_nonneg _ (by omega), Int.emod_lt_of_pos _ n0, k4, grown_trans g1 (grown_trans g2 (grown_trans g3 g4))⟩

set_option maxHeartbeats 400000 in
theorem once_any (B g : Nat) (a : Option Addr) (len cap : Nat) (n : Int) (w : World) (hB : B ≤ g) (hl : len ≤ 9223372036854775807) (hc : CurAt w g a len cap) (hr : RdB w B a len) (n0 : 0 < n) :
    Calls Try.prog 14 #[.pointer (some ⟨g, 0, none⟩), .int .i64 n] w fun e w' => ∃ x, e = .returned (.bool x) ∧ CurAt w' g a len cap ∧ w.grownBy w' (some g) := by
  have hc' := hide hc
  have hr' := hide hr
  clear hc hr
  go_enter Try.func14, Try.ntmps14
  go_wp2_with fail
  refine (below_any B g a len cap n _ hB hl (unhide hc') (unhide hr') n0).mono ?_
  rintro e w1 ⟨x, rfl, x0, x1, k1, g1⟩
  go_wp2
  go_ret
  exact ⟨_, rfl, k1, g1⟩

set_option maxHeartbeats 800000 in
theorem new_any (a : Option Addr) (len cap : Nat) (w : World) (hl : len ≤ 9223372036854775807) (hl2 : len ≤ 1000000) (hr : RdB w w.heap.size a len) :
    Calls Try.prog 12 #[.slice a len cap] w fun e w' => ∃ g, e = .returned (.pointer (some ⟨g, 0, none⟩)) ∧ w.heap.size ≤ g ∧ CurAt w' g a len cap ∧ Below w.heap.size w w' := by
  go_enter Try.func12, Try.ntmps12
  go_wp2
  go_loop [3, 4] (fun s t => ∃ (k : Nat) (h : Int), k ≤ len ∧ t = .int .i64 k ∧ s = .int .i64 h) (fun _ t => len - (intOf t).toNat)
  case atStart => exact ⟨0, _, Nat.zero_le _, rfl, rfl⟩
  case round =>
    obtain ⟨k, h, hk, rfl, rfl⟩ := hrel
    by_cases hlt : k < len
    · obtain ⟨b, o, z, rfl, hb, hz, z0, z1⟩ := hr k hlt
      have hr' := hide hr
      clear hr
      go_wp2
      go_round
      case rel => exact ⟨k + 1, _, by omega, by go_num, rfl⟩
      case measure => simp [intOf]; omega
    · have hr' := hide hr
      clear hr
      go_wp2
      go_ret
      refine ⟨w.heap.size, rfl, Nat.le_refl _, ⟨0, h, by simp, by simp, by simp, by simp, by simp, by omega, by omega⟩, (Below.refl _ _).alloc (Nat.le_refl _) _⟩
end Go.Proofs.Ytghglpcfpokmhaa

namespace Go.Proofs.Ytghglpcfpokmhaa
open Go.RowKit
set_option linter.unusedVariables false
set_option linter.unusedSimpArgs false

theorem grown_alloc {w w1 : World} {g : Option Nat} (h : w.grownBy w1 g) (o : Obj) : w.grownBy (w1.alloc o) g :=
  grown_trans h (grown_belowD ((Below.refl _ _).alloc (Nat.le_refl _) _))
/-- the draws' state: a cursor in g over bytes below B, and all but the cursor as in w -/
structure DS (w : World) (B g : Nat) (a : Option Addr) (len cap : Nat) (wr : World) : Prop where
  cur : CurAt wr g a len cap
  rd : RdB wr B a len
  gr : w.grownBy wr (some g)
theorem DS.step {w wr w1 : World} {B g : Nat} {a : Option Addr} {len cap : Nat} (h : DS w B g a len cap wr) (hB : B ≤ g) (hc : CurAt w1 g a len cap) (hg : wr.grownBy w1 (some g)) : DS w B g a len cap w1 :=
  ⟨hc, h.rd.grown hg hB, grown_trans h.gr hg⟩
theorem DS.later {w wr w1 : World} {B g : Nat} {a : Option Addr} {len cap : Nat} (h : DS w B g a len cap wr) (hB : B ≤ g) (hb : Below wr.heap.size wr w1) : DS w B g a len cap w1 :=
  h.step hB (h.cur.below hb) (grown_belowD hb)
theorem grown_cell {w w1 : World} {g b o : Nat} {v : Value} (h : w.grownBy w1 (some g)) (hne : b ≠ g) (hc : w.cell? ⟨b, o, none⟩ = some v) : w1.cell? ⟨b, o, none⟩ = some v :=
  h.cell hc (by intro e; have := Option.some.inj e; simp at this; omega)
theorem grown_frozen {w w1 : World} {g b o : Nat} (h : w.grownBy w1 (some g)) (hne : b ≠ g) (hb : b < w.heap.size) : w1.frozen? ⟨b, o, none⟩ = w.frozen? ⟨b, o, none⟩ :=
  World.frozen?_of_block (a := ⟨b, o, none⟩) (h.block b hb (by intro e; injection e with e; omega))

end Go.Proofs.Ytghglpcfpokmhaa
