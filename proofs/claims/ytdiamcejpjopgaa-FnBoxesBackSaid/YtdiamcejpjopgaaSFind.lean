/-
  Contract of the model's FindBox: for boxes and a path of bounded size it answers the place, and nothing that was there is written.
-/
import Derived.Test.YtdiamcejpjopgaaIFind
namespace Go.Proofs.Ytdiamcejpjopgaa
open Go.RowKit
set_option linter.unusedVariables false
set_option linter.unusedSimpArgs false

/-- what the model's FindBox has yet to answer: q parts are read, the last place was pl -/
def St (l : List Bx) (p : List UInt8) (n q i j : Nat) (pl : Int) : Int :=
  if 5 * q < p.length then (if q = 0 ∨ p[5 * q - 1]? = some 47 then sfind l n q i j (p.drop (5 * q)) else -1) else pl
theorem St_no {l : List Bx} {p : List UInt8} {n q i j : Nat} {pl : Int} (h : 5 * q < p.length) (h1 : ¬ q = 0) (h2 : p[5 * q - 1]? ≠ some 47) : St l p n q i j pl = -1 := by
  unfold St; rw [if_pos h, if_neg (by rintro (h | h); exact h1 h; exact h2 h)]
theorem St_in {l : List Bx} {p : List UInt8} {n q i j : Nat} {pl : Int} (h : 5 * q < p.length) (h1 : q = 0 ∨ p[5 * q - 1]? = some 47) : St l p n q i j pl = sfind l n q i j (p.drop (5 * q)) := by
  unfold St; rw [if_pos h, if_pos h1]
theorem St_end {l : List Bx} {p : List UInt8} {n q i j : Nat} {pl : Int} (h : ¬ 5 * q < p.length) : St l p n q i j pl = pl := by
  unfold St; rw [if_neg h]
theorem sfind_no {l : List Bx} {n q i j : Nat} {p : List UInt8} (h : pkN l q (p.take 4) (j - i) i = -1) : sfind l (n + 1) q i j p = -1 := by
  unfold sfind; rw [h]; rfl
theorem sfind_yes {l : List Bx} {n q i j x : Nat} {p : List UInt8} (h5 : p.length % 5 = 4) (hq : 5 * q < p.length) (h : pkN l q ((p.drop (5 * q)).take 4) (j - i) i = x) :
    sfind l (n + 1) q i j (p.drop (5 * q)) = St l p n (q + 1) (x + 1) (eoN l q (j - (x + 1)) (x + 1)) x := by
  conv => lhs; unfold sfind
  rw [h]
  show (if (p.drop (5 * q)).length = 4 then (x : Int) else if (p.drop (5 * q))[4]? = some 47 then sfind l n (q + 1) (x + 1) (eoN l q (j - (x + 1)) (x + 1)) ((p.drop (5 * q)).drop 5) else -1) = _
  unfold St
  have e1 : (p.drop (5 * q)).length = p.length - 5 * q := List.length_drop
  by_cases h4 : (p.drop (5 * q)).length = 4
  · rw [if_pos h4, if_neg (by omega)]
  · have e2 : (p.drop (5 * q))[4]? = p[5 * (q + 1) - 1]? := by rw [List.getElem?_drop]; congr 1
    have e3 : (p.drop (5 * q)).drop 5 = p.drop (5 * (q + 1)) := by rw [List.drop_drop]; congr 1
    rw [if_neg h4, e2, e3, if_pos (show 5 * (q + 1) < p.length by omega)]
    by_cases h47 : p[5 * (q + 1) - 1]? = some 47
    · rw [if_pos h47, if_pos (.inr h47)]
    · rw [if_neg h47, if_neg (by rintro (h | h); omega; exact h47 h)]
theorem at_byte (s : ByteArray) (k : Nat) (h : k < s.size) : s.data.toList[k]? = some s[k] := by
  rw [List.getElem?_eq_getElem (by simpa using h)]; rfl
theorem seg_list (s : ByteArray) (k : Nat) : (s.extract k (k + 4)).data.toList = (s.data.toList.drop k).take 4 := by
  rw [extract_list, List.drop_take]; congr 1; omega

set_option maxRecDepth 100000 in
set_option maxHeartbeats 3200000 in
theorem sfind_any (a : Option Addr) (cap : Nat) (A : Nat → Option Addr × Nat) (l : List Bx) (s : ByteArray) (w : World) (hl : l.length ≤ 1048576) (hs : Small 1048576 l) (hp : s.size ≤ 1048576) (hr : Bxs false 0 w.heap.size w a A l) :
    Calls Try.prog 21 #[.slice a l.length cap, .string s] w fun e w' => e = .returned (.int .i64 (find l s.data.toList)) ∧ Below w.heap.size w w' := by
  have hr' := hide hr
  have hs' := hide hs
  clear hr hs
  cases hok : ok l
  · have hf : find l s.data.toList = -1 := by unfold find; rw [hok]; rfl
    rw [hf]
    go_enter Try.func21, Try.ntmps21
    go_wp2_with fail
    refine (sok_any a cap A l false _ hl (unhide hs') (unhide hr') hok).mono ?_
    rintro e w1 ⟨rfl, b1⟩
    go_wp2
    go_ret
    exact ⟨rfl, b1⟩
  · have hlen : s.data.toList.length = s.size := by simp
    have hf := find_s (p := s.data.toList) hok
    rw [hlen] at hf
    by_cases h5 : s.size % 5 = 4
    · rw [if_pos h5] at hf
      have h5b : ((s.size : Int) % 5 != 4) = false := by simp; omega
      have hf' : Hid (find l s.data.toList = St l s.data.toList (s.size + 1) 0 0 l.length (-1)) := hide (by rw [hf, St_in (by omega) (.inl rfl)]; rfl)
      have h5' := hide h5
      have hlen' := hide hlen
      clear hf h5 hlen
      go_enter Try.func21, Try.ntmps21
      go_wp2_with fail
      refine (sok_any a cap A l true _ hl (unhide hs') (unhide hr') hok).mono ?_
      rintro e w1 ⟨rfl, b1⟩
      have hok' := hide hok
      clear hok
      go_wp2
      go_loopw [5, 6, 7, 8] (fun t5 t6 t7 t8 wr => ∃ (i j q k n : Nat) (pl : Int), t5 = .int .i64 i ∧ t6 = .int .i64 j ∧ t7 = .int .i64 pl ∧ t8 = .int .i64 k ∧ j ≤ l.length ∧ i ≤ 1048577 ∧ Hid (k = 5 * q) ∧ k ≤ s.size + 1 ∧ s.size < n + k ∧ Hid (find l s.data.toList = St l s.data.toList n q i j pl) ∧ Below w.heap.size w wr) (fun _ _ _ t8 _ => s.size + 1 - (intOf t8).toNat)
      case atStart => exact ⟨0, l.length, 0, 0, s.size + 1, -1, rfl, rfl, rfl, rfl, by omega, by omega, hide rfl, by omega, by omega, hf', b1⟩
      case round =>
        obtain ⟨i, j, q, k, n, pl, rfl, rfl, rfl, rfl, hj, hi, hk, hq, hn, hR, hb⟩ := hrel
        by_cases hlt : k < s.size
        · have hlt4 : k + 4 ≤ s.size := by have := unhide h5'; have := unhide hk; omega
          obtain ⟨n, rfl⟩ : ∃ n', n = n' + 1 := ⟨n - 1, by omega⟩
          have hcond : (q = 0 ∨ s.data.toList[5 * q - 1]? = some 47) ∨ (¬ q = 0 ∧ s.data.toList[5 * q - 1]? ≠ some 47) := by
            by_cases e : q = 0
            · exact .inl (.inl e)
            · by_cases e2 : s.data.toList[5 * q - 1]? = some 47
              · exact .inl (.inr e2)
              · exact .inr ⟨e, e2⟩
          have hkd : (k : Int) / 5 = (q : Int) := by have := unhide hk; omega
          have hc1 : (0 : Int) ≤ (k : Int) := by omega
          have hc2 : (k : Int) ≤ (k : Int) + 4 := by omega
          have hc3 : (k : Int) + 4 ≤ (s.size : Int) := by omega
          have hq5 : q ≤ 1048576 := by have := unhide hk; omega
          rcases hcond with hc | ⟨q0, hc⟩
          · have hR2 := unhide hR
            rw [St_in (by have := unhide hlen'; have := unhide hk; omega) hc] at hR2
            have hR' := hide hR2
            have hb' := hide hb
            clear hR hR2 hb
            have hkd' := hide hkd
            have hgo : Hid (k = 0 ∨ ∃ k' : Nat, k = k' + 1 ∧ ∃ h : k' < s.size, (s[k'].toNat : Int) = 47) := hide (by
              have hk' := unhide hk
              by_cases q0 : q = 0
              · exact .inl (by omega)
              · right
                have hc := hc.resolve_left q0
                refine ⟨k - 1, by omega, by omega, ?_⟩
                rw [← hk', at_byte s (k - 1) (by omega)] at hc
                injection hc with hc
                rw [hc]; rfl)
            clear hc
            rcases unhide hgo with rfl | ⟨k', rfl, hk1, hk2⟩
            · obtain rfl : q = 0 := by have := unhide hk; omega
              go_wp2
              go_loopw [7, 10] (fun t7 t10 wr => ∃ x : Nat, i ≤ x ∧ t7 = .int .i64 (-1) ∧ t10 = .int .i64 x ∧ Hid (pkN l ((0 : Nat) : Int) (s.extract 0 (0 + 4)).data.toList (j - i) i = pkN l ((0 : Nat) : Int) (s.extract 0 (0 + 4)).data.toList (j - x) x) ∧ Below w.heap.size w wr) (fun _ t _ => j - (intOf t).toNat)
              case atStart => exact ⟨i, by omega, rfl, rfl, hide rfl, unhide hb'⟩
              case round =>
                clear hb'
                obtain ⟨x, hix, rfl, rfl, hpk, hb⟩ := hrel
                by_cases hxj : x < j
                · obtain ⟨y, hy⟩ : ∃ y, l[x]? = some y := ⟨l[x]'(by omega), List.getElem?_eq_getElem (by omega)⟩
                  obtain ⟨b, o, rfl, _, hbl, c0, c1, c2, hrow, k1, d0, d1, _, _, _⟩ := unhide hr' x y hy
                  have v0 : wr.cell? ⟨b, o + x * 3, none⟩ = some (.string y.k) := by rw [(bcell hb).1 _ _ hbl]; exact c0
                  have v1 : wr.cell? ⟨b, o + x * 3 + 1, none⟩ = some (.int .i64 y.d) := by rw [(bcell hb).1 _ _ hbl]; exact c1
                  have hxl : x < l.length := by omega
                  have hh := hide (hit_at (d := ((0 : Nat) : Int)) (k := s.extract 0 (0 + 4)) hy)
                  have hstep : Hid (pkN l ((0 : Nat) : Int) (s.extract 0 (0 + 4)).data.toList (j - x) x = if hit l ((0 : Nat) : Int) (s.extract 0 (0 + 4)).data.toList x = true then (x : Int) else pkN l ((0 : Nat) : Int) (s.extract 0 (0 + 4)).data.toList (j - (x + 1)) (x + 1)) := hide (by
                    rw [show j - x = (j - (x + 1)) + 1 by omega]; rfl)
                  have hb' := hide hb
                  have hrow' := hide hrow
                  clear hy c0 c1 c2 hb hrow
                  by_cases hd : y.d = (0 : Int)
                  · have hdb : (y.d == (0 : Int)) = true := by simpa using hd
                    by_cases hkk : y.k = s.extract 0 (0 + 4)
                    · have hkb : (y.k.toList == (s.extract 0 (0 + 4)).toList) = true := by rw [hkk]; simp
                      have hpx : Hid (pkN l ((0 : Nat) : Int) (s.extract 0 (0 + 4)).data.toList (j - i) i = x) := hide (by rw [unhide hpk, unhide hstep, unhide hh, decide_eq_true (show y.d = ((0 : Nat) : Int) from hd), decide_eq_true hkk]; simp)
                      have hfin : Hid (find l s.data.toList = St l s.data.toList n (0 + 1) (x + 1) (eoN l ((0 : Nat) : Int) (j - (x + 1)) (x + 1)) x) := hide (by
                        rw [unhide hR']
                        have hk' := unhide hk
                        have hlen := unhide hlen'
                        have hs4 := unhide hpx
                        rw [seg_list] at hs4
                        exact sfind_yes (q := 0) (by have := unhide h5'; omega) (by omega) hs4)
                      have hx0 : ¬ (x : Int) < 0 := by omega
                      have hd' := hide hd
                      have hkk' := hide hkk
                      clear hd hkk hpk hstep hh
                      go_wp2
                      go_quiet (fail)
                      go_wp2
                      go_loopw [6, 11] (fun t6 t11 wr => ∃ y J : Nat, t6 = .int .i64 J ∧ t11 = .int .i64 y ∧ Hid ((J = j ∧ x + 1 ≤ y ∧ y ≤ j ∧ eoN l ((0 : Nat) : Int) (j - (x + 1)) (x + 1) = eoN l ((0 : Nat) : Int) (j - y) y) ∨ (J ≤ y ∧ J = eoN l ((0 : Nat) : Int) (j - (x + 1)) (x + 1))) ∧ y ≤ j + 1 ∧ J ≤ j ∧ Below w.heap.size w wr) (fun _ t _ => j + 1 - (intOf t).toNat)
                      case atStart => exact ⟨x + 1, j, rfl, by go_num, hide (.inl ⟨rfl, by omega, by omega, rfl⟩), by omega, by omega, below_drewN (unhide hb') _⟩
                      case round =>
                        clear hb'
                        obtain ⟨z, J, rfl, rfl, hJ, hz, hJj, hb⟩ := hrel
                        by_cases hzJ : z < J
                        · rcases unhide hJ with ⟨e1, z1, z2, e2⟩ | ⟨e1, _⟩
                          · subst e1
                            obtain ⟨u, hu⟩ : ∃ u, l[z]? = some u := ⟨l[z]'(by omega), List.getElem?_eq_getElem (by omega)⟩
                            obtain ⟨b', o', hbo, _, _, c0, c1, c2, hrow, _, d0', d1', _, _, _⟩ := unhide hr' z u hu
                            injection hbo with hbo
                            injection hbo with eb eo' _
                            subst eb eo'
                            have v2 : wr.cell? ⟨b, o + z * 3 + 1, none⟩ = some (.int .i64 u.d) := by rw [(bcell hb).1 _ _ hbl]; exact c1
                            have hzl : z < l.length := by omega
                            have hst : Hid (eoN l ((0 : Nat) : Int) (J - z) z = if deeper l ((0 : Nat) : Int) z = true then eoN l ((0 : Nat) : Int) (J - (z + 1)) (z + 1) else z) := hide (by
                              rw [show J - z = (J - (z + 1)) + 1 by omega]; rfl)
                            have hde := hide (deeper_at (d := ((0 : Nat) : Int)) hu)
                            have e2' := hide e2
                            have hb' := hide hb
                            have hrow2 := hide hrow
                            clear hu c0 c1 c2 e2 hb hrow hJ
                            by_cases hdd : u.d ≤ (0 : Int)
                            · have hJ2 : Hid (z = eoN l ((0 : Nat) : Int) (J - (x + 1)) (x + 1)) := hide (by rw [unhide e2', unhide hst, unhide hde, decide_eq_false (by omega)]; simp)
                              go_wp2
                              go_roundw
                              case rel => exact ⟨z + 1, z, rfl, by go_num, hide (.inr ⟨by omega, unhide hJ2⟩), by omega, by omega, unhide hb'⟩
                              case measure => simp [intOf]; omega
                            · have hJ2 : Hid (eoN l ((0 : Nat) : Int) (J - (x + 1)) (x + 1) = eoN l ((0 : Nat) : Int) (J - (z + 1)) (z + 1)) := hide (by rw [unhide e2', unhide hst, unhide hde, decide_eq_true (by omega)]; simp)
                              go_wp2
                              go_roundw
                              case rel => exact ⟨z + 1, J, rfl, by go_num, hide (.inl ⟨rfl, by omega, by omega, unhide hJ2⟩), by omega, by omega, unhide hb'⟩
                              case measure => simp [intOf]; omega
                          · omega
                        · have hJ2 : Hid (J = eoN l ((0 : Nat) : Int) (j - (x + 1)) (x + 1)) := hide (by
                            rcases unhide hJ with ⟨e1, z1, z2, e2⟩ | ⟨_, e2⟩
                            · rw [e2, show j - z = 0 by omega]
                              show J = z
                              omega
                            · exact e2)
                          clear hJ
                          go_wp2
                          go_roundw
                          case rel => exact ⟨x + 1, J, 0 + 1, 0 + 5, n, x, by go_num, rfl, rfl, by go_num, by omega, by omega, hide (by have := unhide hk; omega), by omega, by omega, hide (by rw [unhide hJ2]; exact unhide hfin), hb⟩
                          case measure => simp [intOf]; omega
                    · have hkb : (y.k.toList == (s.extract 0 (0 + 4)).toList) = false := by rw [beq_eq_false_iff_ne, ByteArray.toList_eq, ByteArray.toList_eq]; exact fun e => hkk (Go.WideShapes.bytes_inj e)
                      have hpx : Hid (pkN l ((0 : Nat) : Int) (s.extract 0 (0 + 4)).data.toList (j - i) i = pkN l ((0 : Nat) : Int) (s.extract 0 (0 + 4)).data.toList (j - (x + 1)) (x + 1)) := hide (by rw [unhide hpk, unhide hstep, unhide hh, decide_eq_false hkk]; simp)
                      have hd' := hide hd
                      clear hd hpk hstep hh hkk
                      go_wp2
                      go_quiet (fail)
                      go_wp2
                      go_roundw
                      case rel => exact ⟨x + 1, by omega, rfl, by go_num, hpx, below_drewN (unhide hb') _⟩
                      case measure => simp [intOf]; omega
                  · have hdb : (y.d == (0 : Int)) = false := by simpa using hd
                    have hpx : Hid (pkN l ((0 : Nat) : Int) (s.extract 0 (0 + 4)).data.toList (j - i) i = pkN l ((0 : Nat) : Int) (s.extract 0 (0 + 4)).data.toList (j - (x + 1)) (x + 1)) := hide (by rw [unhide hpk, unhide hstep, unhide hh, decide_eq_false (show ¬ y.d = ((0 : Nat) : Int) from hd)]; simp)
                    clear hd hpk hstep hh
                    go_wp2
                    go_quiet (fail)
                    go_wp2
                    go_roundw
                    case rel => exact ⟨x + 1, by omega, rfl, by go_num, hpx, below_drewN (unhide hb') _⟩
                    case measure => simp [intOf]; omega
                · have hfin : Hid (find l s.data.toList = -1) := hide (by
                    rw [unhide hR']
                    have hk' := unhide hk
                    have hs4 : pkN l ((0 : Nat) : Int) (s.extract 0 (0 + 4)).data.toList (j - i) i = -1 := by rw [unhide hpk, show j - x = 0 by omega]; rfl
                    rw [seg_list] at hs4
                    exact sfind_no (q := 0) hs4)
                  clear hpk
                  go_wp2
                  go_ret
                  exact ⟨ret_int (unhide hfin).symm, hb⟩
            · have hkd2 : ((k' : Int) + 1) / 5 = (q : Int) := by have := unhide hkd'; omega
              go_wp2
              go_loopw [7, 10] (fun t7 t10 wr => ∃ x : Nat, i ≤ x ∧ t7 = .int .i64 (-1) ∧ t10 = .int .i64 x ∧ Hid (pkN l q (s.extract (k' + 1) ((k' + 1) + 4)).data.toList (j - i) i = pkN l q (s.extract (k' + 1) ((k' + 1) + 4)).data.toList (j - x) x) ∧ Below w.heap.size w wr) (fun _ t _ => j - (intOf t).toNat)
              case atStart => exact ⟨i, by omega, rfl, rfl, hide rfl, unhide hb'⟩
              case round =>
                clear hb'
                obtain ⟨x, hix, rfl, rfl, hpk, hb⟩ := hrel
                by_cases hxj : x < j
                · obtain ⟨y, hy⟩ : ∃ y, l[x]? = some y := ⟨l[x]'(by omega), List.getElem?_eq_getElem (by omega)⟩
                  obtain ⟨b, o, rfl, _, hbl, c0, c1, c2, hrow, k1, d0, d1, _, _, _⟩ := unhide hr' x y hy
                  have v0 : wr.cell? ⟨b, o + x * 3, none⟩ = some (.string y.k) := by rw [(bcell hb).1 _ _ hbl]; exact c0
                  have v1 : wr.cell? ⟨b, o + x * 3 + 1, none⟩ = some (.int .i64 y.d) := by rw [(bcell hb).1 _ _ hbl]; exact c1
                  have hxl : x < l.length := by omega
                  have hh := hide (hit_at (d := q) (k := s.extract (k' + 1) ((k' + 1) + 4)) hy)
                  have hstep : Hid (pkN l q (s.extract (k' + 1) ((k' + 1) + 4)).data.toList (j - x) x = if hit l q (s.extract (k' + 1) ((k' + 1) + 4)).data.toList x = true then (x : Int) else pkN l q (s.extract (k' + 1) ((k' + 1) + 4)).data.toList (j - (x + 1)) (x + 1)) := hide (by
                    rw [show j - x = (j - (x + 1)) + 1 by omega]; rfl)
                  have hb' := hide hb
                  have hrow' := hide hrow
                  clear hy c0 c1 c2 hb hrow
                  by_cases hd : y.d = (q : Int)
                  · have hdb : (y.d == (q : Int)) = true := by simpa using hd
                    by_cases hkk : y.k = s.extract (k' + 1) ((k' + 1) + 4)
                    · have hkb : (y.k.toList == (s.extract (k' + 1) ((k' + 1) + 4)).toList) = true := by rw [hkk]; simp
                      have hpx : Hid (pkN l q (s.extract (k' + 1) ((k' + 1) + 4)).data.toList (j - i) i = x) := hide (by rw [unhide hpk, unhide hstep, unhide hh, decide_eq_true hd, decide_eq_true hkk]; simp)
                      have hfin : Hid (find l s.data.toList = St l s.data.toList n (q + 1) (x + 1) (eoN l q (j - (x + 1)) (x + 1)) x) := hide (by
                        rw [unhide hR']
                        have hk' := unhide hk
                        have hlen := unhide hlen'
                        have hs4 := unhide hpx
                        rw [seg_list, hk'] at hs4
                        exact sfind_yes (by have := unhide h5'; omega) (by omega) hs4)
                      have hx0 : ¬ (x : Int) < 0 := by omega
                      have hd' := hide hd
                      have hkk' := hide hkk
                      clear hd hkk hpk hstep hh
                      go_wp2
                      go_quiet (fail)
                      go_wp2
                      go_loopw [6, 11] (fun t6 t11 wr => ∃ y J : Nat, t6 = .int .i64 J ∧ t11 = .int .i64 y ∧ Hid ((J = j ∧ x + 1 ≤ y ∧ y ≤ j ∧ eoN l q (j - (x + 1)) (x + 1) = eoN l q (j - y) y) ∨ (J ≤ y ∧ J = eoN l q (j - (x + 1)) (x + 1))) ∧ y ≤ j + 1 ∧ J ≤ j ∧ Below w.heap.size w wr) (fun _ t _ => j + 1 - (intOf t).toNat)
                      case atStart => exact ⟨x + 1, j, rfl, by go_num, hide (.inl ⟨rfl, by omega, by omega, rfl⟩), by omega, by omega, below_drewN (unhide hb') _⟩
                      case round =>
                        clear hb'
                        obtain ⟨z, J, rfl, rfl, hJ, hz, hJj, hb⟩ := hrel
                        by_cases hzJ : z < J
                        · rcases unhide hJ with ⟨e1, z1, z2, e2⟩ | ⟨e1, _⟩
                          · subst e1
                            obtain ⟨u, hu⟩ : ∃ u, l[z]? = some u := ⟨l[z]'(by omega), List.getElem?_eq_getElem (by omega)⟩
                            obtain ⟨b', o', hbo, _, _, c0, c1, c2, hrow, _, d0', d1', _, _, _⟩ := unhide hr' z u hu
                            injection hbo with hbo
                            injection hbo with eb eo' _
                            subst eb eo'
                            have v2 : wr.cell? ⟨b, o + z * 3 + 1, none⟩ = some (.int .i64 u.d) := by rw [(bcell hb).1 _ _ hbl]; exact c1
                            have hzl : z < l.length := by omega
                            have hst : Hid (eoN l q (J - z) z = if deeper l q z = true then eoN l q (J - (z + 1)) (z + 1) else z) := hide (by
                              rw [show J - z = (J - (z + 1)) + 1 by omega]; rfl)
                            have hde := hide (deeper_at (d := (q : Int)) hu)
                            have e2' := hide e2
                            have hb' := hide hb
                            have hrow2 := hide hrow
                            clear hu c0 c1 c2 e2 hb hrow hJ
                            by_cases hdd : u.d ≤ (q : Int)
                            · have hJ2 : Hid (z = eoN l q (J - (x + 1)) (x + 1)) := hide (by rw [unhide e2', unhide hst, unhide hde, decide_eq_false (by omega)]; simp)
                              go_wp2
                              go_roundw
                              case rel => exact ⟨z + 1, z, rfl, by go_num, hide (.inr ⟨by omega, unhide hJ2⟩), by omega, by omega, unhide hb'⟩
                              case measure => simp [intOf]; omega
                            · have hJ2 : Hid (eoN l q (J - (x + 1)) (x + 1) = eoN l q (J - (z + 1)) (z + 1)) := hide (by rw [unhide e2', unhide hst, unhide hde, decide_eq_true (by omega)]; simp)
                              go_wp2
                              go_roundw
                              case rel => exact ⟨z + 1, J, rfl, by go_num, hide (.inl ⟨rfl, by omega, by omega, unhide hJ2⟩), by omega, by omega, unhide hb'⟩
                              case measure => simp [intOf]; omega
                          · omega
                        · have hJ2 : Hid (J = eoN l q (j - (x + 1)) (x + 1)) := hide (by
                            rcases unhide hJ with ⟨e1, z1, z2, e2⟩ | ⟨_, e2⟩
                            · rw [e2, show j - z = 0 by omega]
                              show J = z
                              omega
                            · exact e2)
                          clear hJ
                          go_wp2
                          go_roundw
                          case rel => exact ⟨x + 1, J, q + 1, (k' + 1) + 5, n, x, by go_num, rfl, rfl, by go_num, by omega, by omega, hide (by have := unhide hk; omega), by omega, by omega, hide (by rw [unhide hJ2]; exact unhide hfin), hb⟩
                          case measure => simp [intOf]; omega
                    · have hkb : (y.k.toList == (s.extract (k' + 1) ((k' + 1) + 4)).toList) = false := by rw [beq_eq_false_iff_ne, ByteArray.toList_eq, ByteArray.toList_eq]; exact fun e => hkk (Go.WideShapes.bytes_inj e)
                      have hpx : Hid (pkN l q (s.extract (k' + 1) ((k' + 1) + 4)).data.toList (j - i) i = pkN l q (s.extract (k' + 1) ((k' + 1) + 4)).data.toList (j - (x + 1)) (x + 1)) := hide (by rw [unhide hpk, unhide hstep, unhide hh, decide_eq_false hkk]; simp)
                      have hd' := hide hd
                      clear hd hpk hstep hh hkk
                      go_wp2
                      go_quiet (fail)
                      go_wp2
                      go_roundw
                      case rel => exact ⟨x + 1, by omega, rfl, by go_num, hpx, below_drewN (unhide hb') _⟩
                      case measure => simp [intOf]; omega
                  · have hdb : (y.d == (q : Int)) = false := by simpa using hd
                    have hpx : Hid (pkN l q (s.extract (k' + 1) ((k' + 1) + 4)).data.toList (j - i) i = pkN l q (s.extract (k' + 1) ((k' + 1) + 4)).data.toList (j - (x + 1)) (x + 1)) := hide (by rw [unhide hpk, unhide hstep, unhide hh, decide_eq_false hd]; simp)
                    clear hd hpk hstep hh
                    go_wp2
                    go_quiet (fail)
                    go_wp2
                    go_roundw
                    case rel => exact ⟨x + 1, by omega, rfl, by go_num, hpx, below_drewN (unhide hb') _⟩
                    case measure => simp [intOf]; omega
                · have hfin : Hid (find l s.data.toList = -1) := hide (by
                    rw [unhide hR']
                    have hk' := unhide hk
                    have hs4 : pkN l q (s.extract (k' + 1) ((k' + 1) + 4)).data.toList (j - i) i = -1 := by rw [unhide hpk, show j - x = 0 by omega]; rfl
                    rw [seg_list, hk'] at hs4
                    exact sfind_no hs4)
                  clear hpk
                  go_wp2
                  go_ret
                  exact ⟨ret_int (unhide hfin).symm, hb⟩
          · have hR2 := unhide hR
            rw [St_no (by have := unhide hlen'; have := unhide hk; omega) q0 hc] at hR2
            have hR' := hide hR2
            clear hR hR2
            obtain ⟨k', rfl, hk1, hk2⟩ : ∃ k' : Nat, k = k' + 1 ∧ ∃ h : k' < s.size, ((s[k'].toNat : Int) != 47) = true := by
              have hk' := unhide hk
              refine ⟨k - 1, by omega, by omega, ?_⟩
              rw [← hk', at_byte s (k - 1) (by omega)] at hc
              rw [bne_iff_ne]
              intro e
              exact hc (by congr 1; apply UInt8.toNat_inj.1; show _ = 47; omega)
            clear hc
            go_wp2
            go_ret
            exact ⟨ret_int (unhide hR').symm, hb⟩
        · have hR2 := unhide hR
          rw [St_end (by have := unhide hlen'; have := unhide hk; omega)] at hR2
          have hR' := hide hR2
          clear hR hR2
          go_wp2
          go_ret
          exact ⟨ret_int (unhide hR').symm, hb⟩
    · rw [if_neg h5] at hf
      have h5b : ((s.size : Int) % 5 != 4) = true := by simp; omega
      rw [hf]
      clear hf
      go_enter Try.func21, Try.ntmps21
      go_wp2_with fail
      refine (sok_any a cap A l true _ hl (unhide hs') (unhide hr') hok).mono ?_
      rintro e w1 ⟨rfl, b1⟩
      go_wp2
      go_ret
      exact ⟨rfl, b1⟩
end Go.Proofs.Ytdiamcejpjopgaa
