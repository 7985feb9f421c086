/-
  The contract of the model's Changes.
-/
import Derived.Test.YtfcjdempigoiiaaAlk
import Derived.Test.YtfcjdempigoiiaaEnd
import Derived.Test.YtfcjdempigoiiaaSTn
namespace Go.Proofs.Ytfcjdempigoiiaa
open Go.RowKit
set_option linter.unusedVariables false
set_option linter.unusedSimpArgs false

/-- a list of changes that is new memory -/
def ListR (w w' : World) (L : List Ch) (e : Ending) : Prop := ∃ g c, e = .returned (.slice (some ⟨g, 0, none⟩) L.length c) ∧ w.heap.size ≤ g ∧ OwnC w' w.heap.size g L.length c L ∧ Below w.heap.size w w'
theorem ListR.none {w wx : World} {L : List Ch} (hr : L = []) (hb : Below w.heap.size w wx) : ListR w (wx.alloc (.cells #[] 60)) L (.returned (.slice (some ⟨wx.heap.size, 0, none⟩) 0 0)) := by
  subst hr
  exact ⟨wx.heap.size, 0, rfl, hb.size, ownc_lit0 wx hb.size, hb.alloc hb.size _⟩

set_option maxRecDepth 100000 in
set_option maxHeartbeats 12800000 in
theorem schanges_any (a b : Option Addr) (ca cb : Nat) (l m : List Kl) (w : World) (hl0 : l.length ≤ maxLen) (hm0 : m.length ≤ maxLen) (hk : Kls w a l) (hkm : Kls w b m) :
    Calls Try.prog 8 #[.slice a l.length ca, .slice b m.length cb] w fun e w' => ListR w w' (changesOf l m) e := by
  have hX0 := (Below.refl w.heap.size w).alloc (Nat.le_refl _) (.cells #[] 60)
  have hk' := hide (hk.below hX0)
  have hkm' := hide hkm
  have hkX := hide (hkm.below hX0)
  have o0 := hide (ownc_lit0 w (Nat.le_refl w.heap.size))
  have b0 := hide hX0
  clear hk hkm hX0
  by_cases hT : TOk l
  case neg =>
    have hd := hide (decide_eq_false hT)
    have hr := hide (changes_no (m := m) (fun h => hT h.1))
    clear hT
    go_enter Try.func8, Try.ntmps8
    go_wp2_with fail
    refine (strack_any a ca l false _ hl0 (unhide hk') (unhide hd)).mono ?_
    rintro e w1 ⟨rfl, hb⟩
    have o1 := hide (ownsRow_below (unhide o0) hb)
    have b1 := hide (laterB (unhide b0) hb)
    clear hb
    go_wp2
    go_ret
    rw [unhide hr]
    exact ⟨w.heap.size, 0, rfl, Nat.le_refl _, unhide o1, unhide b1⟩
  by_cases hU : TOk m
  case neg =>
    have hd := hide (decide_eq_true hT)
    have hd2 := hide (decide_eq_false hU)
    have hr := hide (changes_no (l := l) (fun h => hU h.2))
    clear hT hU
    go_enter Try.func8, Try.ntmps8
    go_wp2_with fail
    refine (strack_any a ca l true _ hl0 (unhide hk') (unhide hd)).mono ?_
    rintro e w1 ⟨rfl, hb⟩
    have o1 := hide (ownsRow_below (unhide o0) hb)
    have b1 := hide (laterB (unhide b0) hb)
    have hk1 := hide ((unhide hkX).below hb)
    clear hb
    go_wp2_with fail
    refine (strack_any b cb m false _ hm0 (unhide hk1) (unhide hd2)).mono ?_
    rintro e w2 ⟨rfl, hb⟩
    have o2 := hide (ownsRow_below (unhide o1) hb)
    have b2 := hide (laterB (unhide b1) hb)
    clear hb
    go_wp2
    go_ret
    rw [unhide hr]
    exact ⟨w.heap.size, 0, rfl, Nat.le_refl _, unhide o2, unhide b2⟩
  have hd := hide (decide_eq_true hT)
  have hd2 := hide (decide_eq_true hU)
  have hlT : l.length ≤ 300 := hT.1
  have hlU : m.length ≤ 300 := hU.1
  have hT' := hide hT
  have hU' := hide hU
  have c1 := hT.2.2
  have c2 := hU.2.2
  have c3 := clen_nonneg hT.2.1
  have c4 := clen_nonneg hU.2.1
  clear hT hU
  go_enter Try.func8, Try.ntmps8
  go_wp2_with fail
  refine (strack_any a ca l true _ hl0 (unhide hk') (unhide hd)).mono ?_
  rintro e w1 ⟨rfl, hb⟩
  have oO := hide (ownsRow_below (unhide o0) hb)
  have bO := hide (laterB (unhide b0) hb)
  have hk1 := hide ((unhide hk').below hb)
  have hk2 := hide ((unhide hkX).below hb)
  clear hb hk' hkX o0 b0
  go_wp2_with fail
  refine (strack_any b cb m true _ hm0 (unhide hk2) (unhide hd2)).mono ?_
  rintro e w2 ⟨rfl, hb⟩
  have oO := hide (ownsRow_below (unhide oO) hb)
  have bO := hide (laterB (unhide bO) hb)
  have hk1 := hide ((unhide hk1).below hb)
  have hk2 := hide ((unhide hk2).below hb)
  clear hb hd hd2
  go_wp2_with fail
  refine (slen_any a ca l _ (by omega) (unhide hT').2.1 (unhide hk1)).mono ?_
  rintro e w3 ⟨rfl, rfl⟩
  go_wp2_with fail
  refine (slen_any b cb m _ (by omega) (unhide hU').2.1 (unhide hk2)).mono ?_
  rintro e w3' ⟨rfl, rfl⟩
  obtain ⟨mn, hmn⟩ : ∃ mn, mn = min (clen l) (clen m) := ⟨_, rfl⟩
  have m0 : 0 ≤ mn := by omega
  have m1 : mn ≤ clen l := by omega
  have m2 : mn ≤ clen m := by omega
  have hmn' := hide hmn
  clear hmn
  go_wp2_with fail
  refine (min_any (clen l) (clen m) mn _ (unhide hmn').symm).mono ?_
  rintro e w4 ⟨rfl, rfl⟩
  go_wp2_with fail
  refine (salike_any a b ca cb l m mn _ (unhide hT') (unhide hU') m0 m1 m2 (unhide hk1) (unhide hk2)).mono ?_
  rintro e w5 ⟨p, rfl, hp, hb⟩
  have oO := hide (ownsRow_below (unhide oO) hb)
  have bO := hide (laterB (unhide bO) hb)
  have hk1 := hide ((unhide hk1).below hb)
  have hk2 := hide ((unhide hk2).below hb)
  have p0 := hp.1
  have p1 := hp.2.1
  have hp' := hide hp
  clear hb hp
  go_wp2_with fail
  refine (min_any (clen l) (clen m) mn _ (unhide hmn').symm).mono ?_
  rintro e w4' ⟨rfl, rfl⟩
  go_wp2_with fail
  refine (sends_any a b ca cb l m (mn - p) _ (unhide hT') (unhide hU') (by omega) (by omega) (by omega) (unhide hk1) (unhide hk2)).mono ?_
  rintro e w6 ⟨q, rfl, hq, hb⟩
  have oO := hide (ownsRow_below (unhide oO) hb)
  have bO := hide (laterB (unhide bO) hb)
  have q0 := hq.1
  have q1 := hq.2.1
  have hchg := hide (changes_yes ⟨unhide hT', unhide hU'⟩ (by rw [← unhide hmn']; exact unhide hp') (by rw [← unhide hmn']; exact hq))
  clear hb hq hk1 hk2 hp'
  obtain ⟨dd, hdd⟩ : ∃ dd, dd = clen l - p - q := ⟨_, rfl⟩
  have dd0 : 0 ≤ dd := by omega
  have e1 : clen l - p - q = dd := hdd.symm
  rw [e1] at hchg
  have hdd' := hide hdd
  clear hdd
  by_cases hp : 0 < p
  · have hpt : decide (0 < p) = true := by simpa using hp
    have hf1 := hide (show frs 1 p = [(1, 0, 0, p)] by simp only [frs, if_neg (show ¬ p = 0 by omega)])
    have kX := (Below.refl w6.heap.size w6).alloc (Nat.le_refl _) (.cells #[.int .i64 1, .int .i64 0, .int .i64 0, .int .i64 p] 60)
    have hOX := hide (ownsRow_below (unhide oO) kX)
    have hBX := hide (laterB (unhide bO) kX)
    have hXn := hide (World.alloc_heap_new w6 (.cells #[.int .i64 1, .int .i64 0, .int .i64 0, .int .i64 p] 60))
    clear kX oO bO
    go_wp2_with (at_builtin; refine wpList_c Try.underlying27 _ rfl _ _ rfl w.heap.size w.heap.size 0 0 [] (1, 0, 0, p) rfl (unhide hOX) w6.heap.size rfl (unhide hXn) (by omega) (by have := (unhide hBX).size; omega) ?_)
    intro xg xc xw h1 h2 h3
    have xo := hide h1
    have xb := hide ((unhide hBX).grown h2 (unhide hBX).size (fun q e => by injection e with e; have := own_ge (unhide hOX); omega))
    clear h1 h2 h3 hOX hBX hXn
    by_cases hdp : 0 < dd
    · have hdt : decide (0 < dd) = true := by simpa using hdp
      have hf2 := hide (show frs 2 dd = [(2, 0, 0, dd)] by simp only [frs, if_neg (show ¬ dd = 0 by omega)])
      have xo2 : Hid (OwnC xw w.heap.size xg 1 xc [(1, 0, 0, p)]) := hide (by simpa using unhide xo)
      clear xo
      have kX := (Below.refl xw.heap.size xw).alloc (Nat.le_refl _) (.cells #[.int .i64 2, .int .i64 0, .int .i64 0, .int .i64 dd] 60)
      have hOX := hide (ownsRow_below (unhide xo2) kX)
      have hBX := hide (laterB (unhide xb) kX)
      have hXn := hide (World.alloc_heap_new xw (.cells #[.int .i64 2, .int .i64 0, .int .i64 0, .int .i64 dd] 60))
      clear kX xo2 xb
      go_wp2_with (at_builtin; refine wpList_c Try.underlying27 _ rfl _ _ rfl w.heap.size xg 1 xc [(1, 0, 0, p)] (2, 0, 0, dd) rfl (unhide hOX) xw.heap.size rfl (unhide hXn) (by omega) (by have := (unhide hBX).size; omega) ?_)
      intro yg yc yw h1 h2 h3
      have yo := hide h1
      have yb := hide ((unhide hBX).grown h2 (unhide hBX).size (fun q e => by injection e with e; have := own_ge (unhide hOX); omega))
      clear h1 h2 h3 hOX hBX hXn
      obtain ⟨L2, hL⟩ : ∃ L2 : List Ch, L2 = [] ++ [(1, 0, 0, p)] ++ [(2, 0, 0, dd)] := ⟨_, rfl⟩
      have oO : Hid (OwnC yw w.heap.size yg 2 yc L2) := hide (by rw [hL]; simpa using unhide yo)
      have bO := yb
      clear yo yb
      have hL2 := hide (show frs 1 p ++ frs 2 dd = L2 by rw [unhide hf1, unhide hf2, hL]; rfl)
      have hL2n := hide (show L2.length = 2 by rw [hL]; rfl)
      clear hL hf1 hf2
      obtain ⟨gO, hgO⟩ : ∃ gO, gO = yg := ⟨_, rfl⟩
      obtain ⟨cO, hcO⟩ : ∃ cO, cO = yc := ⟨_, rfl⟩
      subst hgO hcO
      go_wp2_with fail
      refine (spart_any b cb m p (clen m - q) _ (unhide hU') ⟨by omega, by omega⟩ ⟨by omega, by omega⟩ ((unhide hkm').below (unhide bO))).mono ?_
      rintro e w7 ⟨g7, c7, rfl, q7, n7, k7⟩
      have oO := hide (ownsRow_below (unhide oO) k7)
      have bO := hide (laterB (unhide bO) k7)
      have hpl := part_len m p (clen m - q)
      have hpok := hide (part_ok (unhide hU').2.1 p (clen m - q))
      have n7' := hide n7
      clear k7 n7 q7
      go_wp2_with fail
      refine (sjoin_any (some ⟨g7, 0, none⟩) c7 (part m p (clen m - q)) _ (by omega) (unhide hpok) (kls_own (unhide n7'))).mono ?_
      rintro e w8 ⟨g2, c2', rfl, q8, n8, k8⟩
      have oO := hide (ownsRow_below (unhide oO) k8)
      have bO := hide (laterB (unhide bO) k8)
      have n8' := hide (own_mono n8 (Nat.zero_le _))
      have hjl := len_join (part m p (clen m - q))
      clear k8 n8 q8 n7' hpok
      generalize hJe : join (part m p (clen m - q)) = J at *
      have hJl : J.length ≤ 300 := by omega
      have hJe' := hide hJe
      clear hJe hjl hpl
      go_wp2
      go_loopw [5, 11] (fun s t wr => ∃ j gi ci : Nat, j ≤ J.length ∧ t = .int .i64 j ∧ s = .slice (some ⟨gi, 0, none⟩) (L2 ++ adds (J.take j)).length ci ∧ Hid (OwnC wr w.heap.size gi (L2 ++ adds (J.take j)).length ci (L2 ++ adds (J.take j))) ∧ Hid (Own wr 0 g2 J.length c2' J) ∧ Hid (Below w.heap.size w wr)) (fun _ t _ => J.length - (intOf t).toNat)
      case atStart => exact ⟨0, gO, cO, by omega, rfl, by simp [adds, unhide hL2n], hide (by rw [show L2 ++ adds (J.take 0) = L2 by simp [adds], unhide hL2n]; exact unhide oO), n8', bO⟩
      case round =>
        clear oO bO n8'
        obtain ⟨j, gi, ci, hj, rfl, rfl, hO, hI, hBi⟩ := hrel
        obtain ⟨N, hN⟩ : ∃ N, N = L2 ++ adds (J.take j) := ⟨_, rfl⟩
        have hNl : N.length ≤ 1000 := by rw [hN, List.length_append, adds_len, List.length_take, unhide hL2n]; omega
        rw [← hN] at hO ⊢
        by_cases hjt : j < J.length
        · obtain ⟨⟨y1, y2, y3⟩, hy⟩ : ∃ y, J[j]? = some y := ⟨J[j], List.getElem?_eq_getElem hjt⟩
          obtain ⟨e0, e1, e2⟩ := own_cells hy (unhide hI)
          simp only at e0 e1 e2
          have hns := hide (show L2 ++ adds (J.take (j + 1)) = N ++ [(3, y1, y2, y3)] by rw [adds_snoc hy, hN, List.append_assoc])
          clear hy hN
          go_wp2_with fail
          refine wp_region_noPanic ?_
          refine wp_region_held_drew (S := fun w' => w'.cell? ⟨g2, j * 3, none⟩ = some (.int .i64 y1) ∧ w'.cell? ⟨g2, j * 3 + 1, none⟩ = some (.int .i64 y2) ∧ w'.cell? ⟨g2, j * 3 + 2, none⟩ = some (.int .i64 y3)) (by kernel_rfl) ?_ (fun hH0 => ?_)
          · exact ⟨e0, e1, e2⟩
          refine wpAnyH_take (i := 0) (oi := { dst := some 75, op := Go.Op.move (Go.Operand.tmp 5), type := 27, pos := _, after := #[], guard := none }) (v := ?_) rfl (by kernel_rfl) (by kernel_rfl) (by kernel_rfl) (fun _ _ _ h => h) (Or.inl ⟨by rfl, ?_⟩) hH0 ?_
          rotate_left
          · (intro w hSw; (try dsimp only at hSw); go_simp <;> with_reducible rfl)
          (try simp only [Act.put, List.setIfInBounds_toArray, List.set_cons_zero, List.set_cons_succ])
          refine wpAnyH_take (i := 1) (oi := { dst := some 76, op := Go.Op.move (Go.Operand.tmp 10), type := 24, pos := _, after := #[], guard := none }) (v := ?_) rfl (by kernel_rfl) (by kernel_rfl) (by kernel_rfl) (fun _ _ _ h => h) (Or.inl ⟨by rfl, ?_⟩) hH0 ?_
          rotate_left
          · (intro w hSw; (try dsimp only at hSw); go_simp <;> with_reducible rfl)
          (try simp only [Act.put, List.setIfInBounds_toArray, List.set_cons_zero, List.set_cons_succ])
          refine wpAnyH_take (i := 2) (oi := { dst := some 77, op := Go.Op.move (Go.Operand.tmp 11), type := 3, pos := _, after := #[], guard := none }) (v := ?_) rfl (by kernel_rfl) (by kernel_rfl) (by kernel_rfl) (fun _ _ _ h => h) (Or.inl ⟨by rfl, ?_⟩) hH0 ?_
          rotate_left
          · (intro w hSw; (try dsimp only at hSw); go_simp <;> with_reducible rfl)
          (try simp only [Act.put, List.setIfInBounds_toArray, List.set_cons_zero, List.set_cons_succ])
          refine wpAnyH_take (i := 3) (oi := { dst := some 78, op := Go.Op.indexAddr 24 (Go.Operand.tmp 76) (Go.Operand.tmp 77), type := 0, pos := _, after := #[{ on := 1, ground := Go.Ground.data }, { on := 2, ground := Go.Ground.data }], guard := none }) (v := ?_) rfl (by kernel_rfl) (by kernel_rfl) (by kernel_rfl) (fun _ _ _ h => h) (Or.inl ⟨by rfl, ?_⟩) hH0 ?_
          rotate_left
          · (intro w hSw; (try dsimp only at hSw); go_simp <;> with_reducible rfl)
          (try simp only [Act.put, List.setIfInBounds_toArray, List.set_cons_zero, List.set_cons_succ])
          refine wpAnyH_take (i := 4) (oi := { dst := some 79, op := Go.Op.fieldAddr 63 (Go.Operand.tmp 78) 0, type := 0, pos := _, after := #[{ on := 3, ground := Go.Ground.data }], guard := none }) (v := ?_) rfl (by kernel_rfl) (by kernel_rfl) (by kernel_rfl) (fun _ _ _ h => h) (Or.inl ⟨by rfl, ?_⟩) hH0 ?_
          rotate_left
          · (intro w hSw; (try dsimp only at hSw); go_simp <;> with_reducible rfl)
          (try simp only [Act.put, List.setIfInBounds_toArray, List.set_cons_zero, List.set_cons_succ])
          refine wpAnyH_take (i := 5) (oi := { dst := some 80, op := Go.Op.load 2 (Go.Operand.tmp 79), type := 2, pos := _, after := #[{ on := 4, ground := Go.Ground.data }], guard := none }) (v := ?_) rfl (by kernel_rfl) (by kernel_rfl) (by kernel_rfl) (fun _ _ _ h => h) (Or.inl ⟨by rfl, ?_⟩) hH0 ?_
          rotate_left
          · (intro w hSw; (try dsimp only at hSw); go_simp <;> with_reducible rfl)
          (try simp only [Act.put, List.setIfInBounds_toArray, List.set_cons_zero, List.set_cons_succ])
          refine wpAnyH_take (i := 6) (oi := { dst := some 81, op := Go.Op.move (Go.Operand.tmp 10), type := 24, pos := _, after := #[], guard := none }) (v := ?_) rfl (by kernel_rfl) (by kernel_rfl) (by kernel_rfl) (fun _ _ _ h => h) (Or.inl ⟨by rfl, ?_⟩) hH0 ?_
          rotate_left
          · (intro w hSw; (try dsimp only at hSw); go_simp <;> with_reducible rfl)
          (try simp only [Act.put, List.setIfInBounds_toArray, List.set_cons_zero, List.set_cons_succ])
          refine wpAnyH_take (i := 7) (oi := { dst := some 82, op := Go.Op.move (Go.Operand.tmp 11), type := 3, pos := _, after := #[], guard := none }) (v := ?_) rfl (by kernel_rfl) (by kernel_rfl) (by kernel_rfl) (fun _ _ _ h => h) (Or.inl ⟨by rfl, ?_⟩) hH0 ?_
          rotate_left
          · (intro w hSw; (try dsimp only at hSw); go_simp <;> with_reducible rfl)
          (try simp only [Act.put, List.setIfInBounds_toArray, List.set_cons_zero, List.set_cons_succ])
          refine wpAnyH_take (i := 8) (oi := { dst := some 83, op := Go.Op.indexAddr 24 (Go.Operand.tmp 81) (Go.Operand.tmp 82), type := 0, pos := _, after := #[{ on := 6, ground := Go.Ground.data }, { on := 7, ground := Go.Ground.data }], guard := none }) (v := ?_) rfl (by kernel_rfl) (by kernel_rfl) (by kernel_rfl) (fun _ _ _ h => h) (Or.inl ⟨by rfl, ?_⟩) hH0 ?_
          rotate_left
          · (intro w hSw; (try dsimp only at hSw); go_simp <;> with_reducible rfl)
          (try simp only [Act.put, List.setIfInBounds_toArray, List.set_cons_zero, List.set_cons_succ])
          refine wpAnyH_take (i := 9) (oi := { dst := some 84, op := Go.Op.fieldAddr 63 (Go.Operand.tmp 83) 1, type := 0, pos := _, after := #[{ on := 8, ground := Go.Ground.data }], guard := none }) (v := ?_) rfl (by kernel_rfl) (by kernel_rfl) (by kernel_rfl) (fun _ _ _ h => h) (Or.inl ⟨by rfl, ?_⟩) hH0 ?_
          rotate_left
          · (intro w hSw; (try dsimp only at hSw); go_simp <;> with_reducible rfl)
          (try simp only [Act.put, List.setIfInBounds_toArray, List.set_cons_zero, List.set_cons_succ])
          refine wpAnyH_take (i := 10) (oi := { dst := some 85, op := Go.Op.load 2 (Go.Operand.tmp 84), type := 2, pos := _, after := #[{ on := 9, ground := Go.Ground.data }], guard := none }) (v := ?_) rfl (by kernel_rfl) (by kernel_rfl) (by kernel_rfl) (fun _ _ _ h => h) (Or.inl ⟨by rfl, ?_⟩) hH0 ?_
          rotate_left
          · (intro w hSw; (try dsimp only at hSw); go_simp <;> with_reducible rfl)
          (try simp only [Act.put, List.setIfInBounds_toArray, List.set_cons_zero, List.set_cons_succ])
          refine wpAnyH_take (i := 11) (oi := { dst := some 86, op := Go.Op.move (Go.Operand.tmp 10), type := 24, pos := _, after := #[], guard := none }) (v := ?_) rfl (by kernel_rfl) (by kernel_rfl) (by kernel_rfl) (fun _ _ _ h => h) (Or.inl ⟨by rfl, ?_⟩) hH0 ?_
          rotate_left
          · (intro w hSw; (try dsimp only at hSw); go_simp <;> with_reducible rfl)
          (try simp only [Act.put, List.setIfInBounds_toArray, List.set_cons_zero, List.set_cons_succ])
          refine wpAnyH_take (i := 12) (oi := { dst := some 87, op := Go.Op.move (Go.Operand.tmp 11), type := 3, pos := _, after := #[], guard := none }) (v := ?_) rfl (by kernel_rfl) (by kernel_rfl) (by kernel_rfl) (fun _ _ _ h => h) (Or.inl ⟨by rfl, ?_⟩) hH0 ?_
          rotate_left
          · (intro w hSw; (try dsimp only at hSw); go_simp <;> with_reducible rfl)
          (try simp only [Act.put, List.setIfInBounds_toArray, List.set_cons_zero, List.set_cons_succ])
          refine wpAnyH_take (i := 13) (oi := { dst := some 88, op := Go.Op.indexAddr 24 (Go.Operand.tmp 86) (Go.Operand.tmp 87), type := 0, pos := _, after := #[{ on := 11, ground := Go.Ground.data }, { on := 12, ground := Go.Ground.data }], guard := none }) (v := ?_) rfl (by kernel_rfl) (by kernel_rfl) (by kernel_rfl) (fun _ _ _ h => h) (Or.inl ⟨by rfl, ?_⟩) hH0 ?_
          rotate_left
          · (intro w hSw; (try dsimp only at hSw); go_simp <;> with_reducible rfl)
          (try simp only [Act.put, List.setIfInBounds_toArray, List.set_cons_zero, List.set_cons_succ])
          refine wpAnyH_take (i := 14) (oi := { dst := some 89, op := Go.Op.fieldAddr 63 (Go.Operand.tmp 88) 2, type := 0, pos := _, after := #[{ on := 13, ground := Go.Ground.data }], guard := none }) (v := ?_) rfl (by kernel_rfl) (by kernel_rfl) (by kernel_rfl) (fun _ _ _ h => h) (Or.inl ⟨by rfl, ?_⟩) hH0 ?_
          rotate_left
          · (intro w hSw; (try dsimp only at hSw); go_simp <;> with_reducible rfl)
          (try simp only [Act.put, List.setIfInBounds_toArray, List.set_cons_zero, List.set_cons_succ])
          refine wpAnyH_take (i := 15) (oi := { dst := some 90, op := Go.Op.load 2 (Go.Operand.tmp 89), type := 2, pos := _, after := #[{ on := 14, ground := Go.Ground.data }], guard := none }) (v := ?_) rfl (by kernel_rfl) (by kernel_rfl) (by kernel_rfl) (fun _ _ _ h => h) (Or.inl ⟨by rfl, ?_⟩) hH0 ?_
          rotate_left
          · (intro w hSw; (try dsimp only at hSw); go_simp <;> with_reducible rfl)
          (try simp only [Act.put, List.setIfInBounds_toArray, List.set_cons_zero, List.set_cons_succ])
          refine wpAnyH_take (i := 16) (oi := { dst := some 91, op := Go.Op.build 60 #[(0, Go.Operand.const (Go.Value.int Go.IntKind.i64 3)), (1, Go.Operand.tmp 80), (2, Go.Operand.tmp 85), (3, Go.Operand.tmp 90)], type := 60, pos := _, after := #[{ on := 5, ground := Go.Ground.data }, { on := 10, ground := Go.Ground.data }, { on := 15, ground := Go.Ground.data }], guard := none }) (v := ?_) rfl (by kernel_rfl) (by kernel_rfl) (by kernel_rfl) (fun _ _ _ h => h) (Or.inl ⟨by rfl, ?_⟩) hH0 ?_
          rotate_left
          · (intro w hSw; (try dsimp only at hSw); go_simp <;> with_reducible rfl)
          (try simp only [Act.put, List.setIfInBounds_toArray, List.set_cons_zero, List.set_cons_succ])
          refine wpAnyH_ready (rs := [17]) (by kernel_rfl) (by simp) ?_
          refine AllReadyH.cons (o := { dst := some 92, op := Go.Op.buildSlice 27 1 #[(0, Go.Operand.tmp 91)], type := 27, pos := _, after := #[{ on := 16, ground := Go.Ground.data }], guard := none }) rfl (fun K hK => ?_) AllReadyH.nil
          go_simp
          refine hK.out _ _ ?_ (fun hH1 => ?_)
          · exact ⟨cell_later ((Below.refl _ _).alloc (Nat.le_refl _) _) hH0.1, cell_later ((Below.refl _ _).alloc (Nat.le_refl _) _) hH0.2.1, cell_later ((Below.refl _ _).alloc (Nat.le_refl _) _) hH0.2.2⟩
          clear hK K
          (try simp only [Act.put, List.setIfInBounds_toArray, List.set_cons_zero, List.set_cons_succ])
          refine wpAnyH_ready (rs := [18]) (by kernel_rfl) (by simp) ?_
          refine AllReadyH.cons (o := { dst := some 93, op := Go.Op.call { callee := Go.Callee.builtin Go.Builtin.append, args := #[Go.Operand.tmp 75, Go.Operand.tmp 92], argTypes := #[27, 27] }, type := 27, pos := _, after := #[{ on := 0, ground := Go.Ground.data }, { on := 17, ground := Go.Ground.data }], guard := none }) rfl (fun K hK => ?_) AllReadyH.nil
          have hX : Below wr.heap.size wr (wr.drew.alloc (.cells #[.int .i64 3, .int .i64 y1, .int .i64 y2, .int .i64 y3] 60)) := ((Below.refl wr.heap.size wr).drew).alloc (Nat.le_refl _) _
          have hOX := hide (ownsRow_below (unhide hO) hX)
          have hIX := hide (ownsRow_below (unhide hI) hX)
          refine step_c Try.underlying27 _ rfl _ _ rfl w.heap.size gi N.length ci N (3, y1, y2, y3) rfl (unhide hOX) wr.heap.size rfl (World.alloc_heap_new wr.drew _) (by omega) (by have := (unhide hBi).size; simp; omega) ?_
          intro g3 cap3 w3 h1 h2 h3
          have hne : g2 ≠ gi := by
            intro e
            obtain ⟨_, h⟩ := (unhide hIX)
            rcases h with ⟨hv, _⟩ | ⟨gg, cc, cur, hv, _, hh, _⟩
            · cases hv
            · injection hv with e1
              injection e1 with e1
              injection e1 with e1
              subst e1
              exact own_ne (unhide hOX) hh (by decide) e
          refine hK.out _ _ ?_ (fun hH2 => ?_)
          · exact ⟨cell_gr h2 hne hH1.1, cell_gr h2 hne hH1.2.1, cell_gr h2 hne hH1.2.2⟩
          clear hK K
          (try simp only [Act.put, List.setIfInBounds_toArray, List.set_cons_zero, List.set_cons_succ])
          refine wpAnyH_take (i := 19) (oi := { dst := some 5, op := Go.Op.assign (Go.Operand.tmp 93), type := 27, pos := _, after := #[{ on := 18, ground := Go.Ground.data }, { on := 18, ground := Go.Ground.chain }, { on := 0, ground := Go.Ground.phase }, { on := 1, ground := Go.Ground.phase }, { on := 2, ground := Go.Ground.phase }, { on := 3, ground := Go.Ground.phase }, { on := 4, ground := Go.Ground.phase }, { on := 5, ground := Go.Ground.phase }, { on := 6, ground := Go.Ground.phase }, { on := 7, ground := Go.Ground.phase }, { on := 8, ground := Go.Ground.phase }, { on := 9, ground := Go.Ground.phase }, { on := 10, ground := Go.Ground.phase }, { on := 11, ground := Go.Ground.phase }, { on := 12, ground := Go.Ground.phase }, { on := 13, ground := Go.Ground.phase }, { on := 14, ground := Go.Ground.phase }, { on := 15, ground := Go.Ground.phase }, { on := 16, ground := Go.Ground.phase }, { on := 17, ground := Go.Ground.phase }, { on := 18, ground := Go.Ground.phase }], guard := none }) (v := ?_) rfl (by kernel_rfl) (by kernel_rfl) (by kernel_rfl) (fun _ _ _ h => h) (Or.inl ⟨by rfl, ?_⟩) hH2 ?_
          rotate_left
          · (intro w hSw; (try dsimp only at hSw); go_simp <;> with_reducible rfl)
          (try simp only [Act.put, List.setIfInBounds_toArray, List.set_cons_zero, List.set_cons_succ])
          refine wpAnyH_done (by kernel_rfl) ?_ _
          refine NoPanic.normal ?_
          have hO3 := hide (show OwnC w3 w.heap.size g3 (N ++ [(3, y1, y2, y3)]).length cap3 (N ++ [(3, y1, y2, y3)]) by simpa using h1)
          have hI3 := hide (own_kept (unhide hIX) h2 hne)
          have hB3 := hide (((unhide hBi).trans (hX.mono (unhide hBi).size)).grown h2 (by have := (unhide hBi).size; have := hX.size; omega) (fun q e => by injection e with e; have := own_ge (unhide hO); omega))
          clear h1 h2 h3 hX hOX hIX hH0 hH1 hH2 e0 e1 e2 hO hI hBi
          go_wp2
          go_roundw
          case rel => exact ⟨j + 1, g3, cap3, by omega, by go_num, by rw [unhide hns]; simp, by rw [unhide hns]; exact hO3, hI3, hB3⟩
          case measure => simp [intOf]; omega
        · have hje : j = J.length := by omega
          have hNe := hide (show N = L2 ++ adds J by rw [hN, hje, List.take_length])
          have hgg := own_ge (unhide hO)
          have oO := hO
          have bO := hBi
          clear hN hI hO hBi
          by_cases hq : 0 < q
          · have hq' : decide (0 < q) = true := by simpa using hq
            have hR := hide (show changesOf l m = N ++ [(1, 0, 0, q)] by rw [unhide hchg, unhide hNe, unhide hL2]; simp only [frs, if_neg (show ¬ q = 0 by omega)])
            have kX := (Below.refl wr.heap.size wr).alloc (Nat.le_refl _) (.cells #[.int .i64 1, .int .i64 0, .int .i64 0, .int .i64 q] 60)
            have hOX := hide (ownsRow_below (unhide oO) kX)
            have hBX := hide (laterB (unhide bO) kX)
            have hXn := hide (World.alloc_heap_new wr (.cells #[.int .i64 1, .int .i64 0, .int .i64 0, .int .i64 q] 60))
            clear kX oO bO
            go_wp2_with (at_builtin; refine wpList_c Try.underlying27 _ rfl _ _ rfl w.heap.size gi N.length ci N (1, 0, 0, q) rfl (unhide hOX) wr.heap.size rfl (unhide hXn) (by omega) (by have := (unhide hBX).size; omega) ?_)
            intro zg zc zw h1 h2 h3
            have zo := hide h1
            have zb := hide ((unhide hBX).grown h2 (unhide hBX).size (fun q e => by injection e with e; have := own_ge (unhide hOX); omega))
            clear h1 h2 h3 hOX hBX hXn
            have hgz := own_ge (unhide zo)
            go_wp2
            go_ret
            rw [unhide hR]
            exact ⟨zg, zc, by simp, hgz, by simpa using unhide zo, unhide zb⟩
          · have hq' : decide (0 < q) = false := by simpa using hq
            have hR := hide (show changesOf l m = N by rw [unhide hchg, unhide hNe, unhide hL2]; simp only [frs, if_pos (show q = 0 by omega), List.append_nil])
            go_wp2
            go_ret
            rw [unhide hR]
            exact ⟨gi, ci, rfl, hgg, unhide oO, unhide bO⟩
    · have hdt : decide (0 < dd) = false := by simpa using hdp
      have hf2 := hide (show frs 2 dd = [] by simp only [frs, if_pos (show dd = 0 by omega)])
      obtain ⟨L2, hL⟩ : ∃ L2 : List Ch, L2 = [] ++ [(1, 0, 0, p)] := ⟨_, rfl⟩
      have oO : Hid (OwnC xw w.heap.size xg 1 xc L2) := hide (by rw [hL]; simpa using unhide xo)
      have bO := xb
      clear xo xb
      have hL2 := hide (show frs 1 p ++ frs 2 dd = L2 by rw [unhide hf1, unhide hf2, hL]; rfl)
      have hL2n := hide (show L2.length = 1 by rw [hL]; rfl)
      clear hL hf1 hf2
      obtain ⟨gO, hgO⟩ : ∃ gO, gO = xg := ⟨_, rfl⟩
      obtain ⟨cO, hcO⟩ : ∃ cO, cO = xc := ⟨_, rfl⟩
      subst hgO hcO
      go_wp2_with fail
      refine (spart_any b cb m p (clen m - q) _ (unhide hU') ⟨by omega, by omega⟩ ⟨by omega, by omega⟩ ((unhide hkm').below (unhide bO))).mono ?_
      rintro e w7 ⟨g7, c7, rfl, q7, n7, k7⟩
      have oO := hide (ownsRow_below (unhide oO) k7)
      have bO := hide (laterB (unhide bO) k7)
      have hpl := part_len m p (clen m - q)
      have hpok := hide (part_ok (unhide hU').2.1 p (clen m - q))
      have n7' := hide n7
      clear k7 n7 q7
      go_wp2_with fail
      refine (sjoin_any (some ⟨g7, 0, none⟩) c7 (part m p (clen m - q)) _ (by omega) (unhide hpok) (kls_own (unhide n7'))).mono ?_
      rintro e w8 ⟨g2, c2', rfl, q8, n8, k8⟩
      have oO := hide (ownsRow_below (unhide oO) k8)
      have bO := hide (laterB (unhide bO) k8)
      have n8' := hide (own_mono n8 (Nat.zero_le _))
      have hjl := len_join (part m p (clen m - q))
      clear k8 n8 q8 n7' hpok
      generalize hJe : join (part m p (clen m - q)) = J at *
      have hJl : J.length ≤ 300 := by omega
      have hJe' := hide hJe
      clear hJe hjl hpl
      go_wp2
      go_loopw [5, 11] (fun s t wr => ∃ j gi ci : Nat, j ≤ J.length ∧ t = .int .i64 j ∧ s = .slice (some ⟨gi, 0, none⟩) (L2 ++ adds (J.take j)).length ci ∧ Hid (OwnC wr w.heap.size gi (L2 ++ adds (J.take j)).length ci (L2 ++ adds (J.take j))) ∧ Hid (Own wr 0 g2 J.length c2' J) ∧ Hid (Below w.heap.size w wr)) (fun _ t _ => J.length - (intOf t).toNat)
      case atStart => exact ⟨0, gO, cO, by omega, rfl, by simp [adds, unhide hL2n], hide (by rw [show L2 ++ adds (J.take 0) = L2 by simp [adds], unhide hL2n]; exact unhide oO), n8', bO⟩
      case round =>
        clear oO bO n8'
        obtain ⟨j, gi, ci, hj, rfl, rfl, hO, hI, hBi⟩ := hrel
        obtain ⟨N, hN⟩ : ∃ N, N = L2 ++ adds (J.take j) := ⟨_, rfl⟩
        have hNl : N.length ≤ 1000 := by rw [hN, List.length_append, adds_len, List.length_take, unhide hL2n]; omega
        rw [← hN] at hO ⊢
        by_cases hjt : j < J.length
        · obtain ⟨⟨y1, y2, y3⟩, hy⟩ : ∃ y, J[j]? = some y := ⟨J[j], List.getElem?_eq_getElem hjt⟩
          obtain ⟨e0, e1, e2⟩ := own_cells hy (unhide hI)
          simp only at e0 e1 e2
          have hns := hide (show L2 ++ adds (J.take (j + 1)) = N ++ [(3, y1, y2, y3)] by rw [adds_snoc hy, hN, List.append_assoc])
          clear hy hN
          go_wp2_with fail
          refine wp_region_noPanic ?_
          refine wp_region_held_drew (S := fun w' => w'.cell? ⟨g2, j * 3, none⟩ = some (.int .i64 y1) ∧ w'.cell? ⟨g2, j * 3 + 1, none⟩ = some (.int .i64 y2) ∧ w'.cell? ⟨g2, j * 3 + 2, none⟩ = some (.int .i64 y3)) (by kernel_rfl) ?_ (fun hH0 => ?_)
          · exact ⟨e0, e1, e2⟩
          refine wpAnyH_take (i := 0) (oi := { dst := some 75, op := Go.Op.move (Go.Operand.tmp 5), type := 27, pos := _, after := #[], guard := none }) (v := ?_) rfl (by kernel_rfl) (by kernel_rfl) (by kernel_rfl) (fun _ _ _ h => h) (Or.inl ⟨by rfl, ?_⟩) hH0 ?_
          rotate_left
          · (intro w hSw; (try dsimp only at hSw); go_simp <;> with_reducible rfl)
          (try simp only [Act.put, List.setIfInBounds_toArray, List.set_cons_zero, List.set_cons_succ])
          refine wpAnyH_take (i := 1) (oi := { dst := some 76, op := Go.Op.move (Go.Operand.tmp 10), type := 24, pos := _, after := #[], guard := none }) (v := ?_) rfl (by kernel_rfl) (by kernel_rfl) (by kernel_rfl) (fun _ _ _ h => h) (Or.inl ⟨by rfl, ?_⟩) hH0 ?_
          rotate_left
          · (intro w hSw; (try dsimp only at hSw); go_simp <;> with_reducible rfl)
          (try simp only [Act.put, List.setIfInBounds_toArray, List.set_cons_zero, List.set_cons_succ])
          refine wpAnyH_take (i := 2) (oi := { dst := some 77, op := Go.Op.move (Go.Operand.tmp 11), type := 3, pos := _, after := #[], guard := none }) (v := ?_) rfl (by kernel_rfl) (by kernel_rfl) (by kernel_rfl) (fun _ _ _ h => h) (Or.inl ⟨by rfl, ?_⟩) hH0 ?_
          rotate_left
          · (intro w hSw; (try dsimp only at hSw); go_simp <;> with_reducible rfl)
          (try simp only [Act.put, List.setIfInBounds_toArray, List.set_cons_zero, List.set_cons_succ])
          refine wpAnyH_take (i := 3) (oi := { dst := some 78, op := Go.Op.indexAddr 24 (Go.Operand.tmp 76) (Go.Operand.tmp 77), type := 0, pos := _, after := #[{ on := 1, ground := Go.Ground.data }, { on := 2, ground := Go.Ground.data }], guard := none }) (v := ?_) rfl (by kernel_rfl) (by kernel_rfl) (by kernel_rfl) (fun _ _ _ h => h) (Or.inl ⟨by rfl, ?_⟩) hH0 ?_
          rotate_left
          · (intro w hSw; (try dsimp only at hSw); go_simp <;> with_reducible rfl)
          (try simp only [Act.put, List.setIfInBounds_toArray, List.set_cons_zero, List.set_cons_succ])
          refine wpAnyH_take (i := 4) (oi := { dst := some 79, op := Go.Op.fieldAddr 63 (Go.Operand.tmp 78) 0, type := 0, pos := _, after := #[{ on := 3, ground := Go.Ground.data }], guard := none }) (v := ?_) rfl (by kernel_rfl) (by kernel_rfl) (by kernel_rfl) (fun _ _ _ h => h) (Or.inl ⟨by rfl, ?_⟩) hH0 ?_
          rotate_left
          · (intro w hSw; (try dsimp only at hSw); go_simp <;> with_reducible rfl)
          (try simp only [Act.put, List.setIfInBounds_toArray, List.set_cons_zero, List.set_cons_succ])
          refine wpAnyH_take (i := 5) (oi := { dst := some 80, op := Go.Op.load 2 (Go.Operand.tmp 79), type := 2, pos := _, after := #[{ on := 4, ground := Go.Ground.data }], guard := none }) (v := ?_) rfl (by kernel_rfl) (by kernel_rfl) (by kernel_rfl) (fun _ _ _ h => h) (Or.inl ⟨by rfl, ?_⟩) hH0 ?_
          rotate_left
          · (intro w hSw; (try dsimp only at hSw); go_simp <;> with_reducible rfl)
          (try simp only [Act.put, List.setIfInBounds_toArray, List.set_cons_zero, List.set_cons_succ])
          refine wpAnyH_take (i := 6) (oi := { dst := some 81, op := Go.Op.move (Go.Operand.tmp 10), type := 24, pos := _, after := #[], guard := none }) (v := ?_) rfl (by kernel_rfl) (by kernel_rfl) (by kernel_rfl) (fun _ _ _ h => h) (Or.inl ⟨by rfl, ?_⟩) hH0 ?_
          rotate_left
          · (intro w hSw; (try dsimp only at hSw); go_simp <;> with_reducible rfl)
          (try simp only [Act.put, List.setIfInBounds_toArray, List.set_cons_zero, List.set_cons_succ])
          refine wpAnyH_take (i := 7) (oi := { dst := some 82, op := Go.Op.move (Go.Operand.tmp 11), type := 3, pos := _, after := #[], guard := none }) (v := ?_) rfl (by kernel_rfl) (by kernel_rfl) (by kernel_rfl) (fun _ _ _ h => h) (Or.inl ⟨by rfl, ?_⟩) hH0 ?_
          rotate_left
          · (intro w hSw; (try dsimp only at hSw); go_simp <;> with_reducible rfl)
          (try simp only [Act.put, List.setIfInBounds_toArray, List.set_cons_zero, List.set_cons_succ])
          refine wpAnyH_take (i := 8) (oi := { dst := some 83, op := Go.Op.indexAddr 24 (Go.Operand.tmp 81) (Go.Operand.tmp 82), type := 0, pos := _, after := #[{ on := 6, ground := Go.Ground.data }, { on := 7, ground := Go.Ground.data }], guard := none }) (v := ?_) rfl (by kernel_rfl) (by kernel_rfl) (by kernel_rfl) (fun _ _ _ h => h) (Or.inl ⟨by rfl, ?_⟩) hH0 ?_
          rotate_left
          · (intro w hSw; (try dsimp only at hSw); go_simp <;> with_reducible rfl)
          (try simp only [Act.put, List.setIfInBounds_toArray, List.set_cons_zero, List.set_cons_succ])
          refine wpAnyH_take (i := 9) (oi := { dst := some 84, op := Go.Op.fieldAddr 63 (Go.Operand.tmp 83) 1, type := 0, pos := _, after := #[{ on := 8, ground := Go.Ground.data }], guard := none }) (v := ?_) rfl (by kernel_rfl) (by kernel_rfl) (by kernel_rfl) (fun _ _ _ h => h) (Or.inl ⟨by rfl, ?_⟩) hH0 ?_
          rotate_left
          · (intro w hSw; (try dsimp only at hSw); go_simp <;> with_reducible rfl)
          (try simp only [Act.put, List.setIfInBounds_toArray, List.set_cons_zero, List.set_cons_succ])
          refine wpAnyH_take (i := 10) (oi := { dst := some 85, op := Go.Op.load 2 (Go.Operand.tmp 84), type := 2, pos := _, after := #[{ on := 9, ground := Go.Ground.data }], guard := none }) (v := ?_) rfl (by kernel_rfl) (by kernel_rfl) (by kernel_rfl) (fun _ _ _ h => h) (Or.inl ⟨by rfl, ?_⟩) hH0 ?_
          rotate_left
          · (intro w hSw; (try dsimp only at hSw); go_simp <;> with_reducible rfl)
          (try simp only [Act.put, List.setIfInBounds_toArray, List.set_cons_zero, List.set_cons_succ])
          refine wpAnyH_take (i := 11) (oi := { dst := some 86, op := Go.Op.move (Go.Operand.tmp 10), type := 24, pos := _, after := #[], guard := none }) (v := ?_) rfl (by kernel_rfl) (by kernel_rfl) (by kernel_rfl) (fun _ _ _ h => h) (Or.inl ⟨by rfl, ?_⟩) hH0 ?_
          rotate_left
          · (intro w hSw; (try dsimp only at hSw); go_simp <;> with_reducible rfl)
          (try simp only [Act.put, List.setIfInBounds_toArray, List.set_cons_zero, List.set_cons_succ])
          refine wpAnyH_take (i := 12) (oi := { dst := some 87, op := Go.Op.move (Go.Operand.tmp 11), type := 3, pos := _, after := #[], guard := none }) (v := ?_) rfl (by kernel_rfl) (by kernel_rfl) (by kernel_rfl) (fun _ _ _ h => h) (Or.inl ⟨by rfl, ?_⟩) hH0 ?_
          rotate_left
          · (intro w hSw; (try dsimp only at hSw); go_simp <;> with_reducible rfl)
          (try simp only [Act.put, List.setIfInBounds_toArray, List.set_cons_zero, List.set_cons_succ])
          refine wpAnyH_take (i := 13) (oi := { dst := some 88, op := Go.Op.indexAddr 24 (Go.Operand.tmp 86) (Go.Operand.tmp 87), type := 0, pos := _, after := #[{ on := 11, ground := Go.Ground.data }, { on := 12, ground := Go.Ground.data }], guard := none }) (v := ?_) rfl (by kernel_rfl) (by kernel_rfl) (by kernel_rfl) (fun _ _ _ h => h) (Or.inl ⟨by rfl, ?_⟩) hH0 ?_
          rotate_left
          · (intro w hSw; (try dsimp only at hSw); go_simp <;> with_reducible rfl)
          (try simp only [Act.put, List.setIfInBounds_toArray, List.set_cons_zero, List.set_cons_succ])
          refine wpAnyH_take (i := 14) (oi := { dst := some 89, op := Go.Op.fieldAddr 63 (Go.Operand.tmp 88) 2, type := 0, pos := _, after := #[{ on := 13, ground := Go.Ground.data }], guard := none }) (v := ?_) rfl (by kernel_rfl) (by kernel_rfl) (by kernel_rfl) (fun _ _ _ h => h) (Or.inl ⟨by rfl, ?_⟩) hH0 ?_
          rotate_left
          · (intro w hSw; (try dsimp only at hSw); go_simp <;> with_reducible rfl)
          (try simp only [Act.put, List.setIfInBounds_toArray, List.set_cons_zero, List.set_cons_succ])
          refine wpAnyH_take (i := 15) (oi := { dst := some 90, op := Go.Op.load 2 (Go.Operand.tmp 89), type := 2, pos := _, after := #[{ on := 14, ground := Go.Ground.data }], guard := none }) (v := ?_) rfl (by kernel_rfl) (by kernel_rfl) (by kernel_rfl) (fun _ _ _ h => h) (Or.inl ⟨by rfl, ?_⟩) hH0 ?_
          rotate_left
          · (intro w hSw; (try dsimp only at hSw); go_simp <;> with_reducible rfl)
          (try simp only [Act.put, List.setIfInBounds_toArray, List.set_cons_zero, List.set_cons_succ])
          refine wpAnyH_take (i := 16) (oi := { dst := some 91, op := Go.Op.build 60 #[(0, Go.Operand.const (Go.Value.int Go.IntKind.i64 3)), (1, Go.Operand.tmp 80), (2, Go.Operand.tmp 85), (3, Go.Operand.tmp 90)], type := 60, pos := _, after := #[{ on := 5, ground := Go.Ground.data }, { on := 10, ground := Go.Ground.data }, { on := 15, ground := Go.Ground.data }], guard := none }) (v := ?_) rfl (by kernel_rfl) (by kernel_rfl) (by kernel_rfl) (fun _ _ _ h => h) (Or.inl ⟨by rfl, ?_⟩) hH0 ?_
          rotate_left
          · (intro w hSw; (try dsimp only at hSw); go_simp <;> with_reducible rfl)
          (try simp only [Act.put, List.setIfInBounds_toArray, List.set_cons_zero, List.set_cons_succ])
          refine wpAnyH_ready (rs := [17]) (by kernel_rfl) (by simp) ?_
          refine AllReadyH.cons (o := { dst := some 92, op := Go.Op.buildSlice 27 1 #[(0, Go.Operand.tmp 91)], type := 27, pos := _, after := #[{ on := 16, ground := Go.Ground.data }], guard := none }) rfl (fun K hK => ?_) AllReadyH.nil
          go_simp
          refine hK.out _ _ ?_ (fun hH1 => ?_)
          · exact ⟨cell_later ((Below.refl _ _).alloc (Nat.le_refl _) _) hH0.1, cell_later ((Below.refl _ _).alloc (Nat.le_refl _) _) hH0.2.1, cell_later ((Below.refl _ _).alloc (Nat.le_refl _) _) hH0.2.2⟩
          clear hK K
          (try simp only [Act.put, List.setIfInBounds_toArray, List.set_cons_zero, List.set_cons_succ])
          refine wpAnyH_ready (rs := [18]) (by kernel_rfl) (by simp) ?_
          refine AllReadyH.cons (o := { dst := some 93, op := Go.Op.call { callee := Go.Callee.builtin Go.Builtin.append, args := #[Go.Operand.tmp 75, Go.Operand.tmp 92], argTypes := #[27, 27] }, type := 27, pos := _, after := #[{ on := 0, ground := Go.Ground.data }, { on := 17, ground := Go.Ground.data }], guard := none }) rfl (fun K hK => ?_) AllReadyH.nil
          have hX : Below wr.heap.size wr (wr.drew.alloc (.cells #[.int .i64 3, .int .i64 y1, .int .i64 y2, .int .i64 y3] 60)) := ((Below.refl wr.heap.size wr).drew).alloc (Nat.le_refl _) _
          have hOX := hide (ownsRow_below (unhide hO) hX)
          have hIX := hide (ownsRow_below (unhide hI) hX)
          refine step_c Try.underlying27 _ rfl _ _ rfl w.heap.size gi N.length ci N (3, y1, y2, y3) rfl (unhide hOX) wr.heap.size rfl (World.alloc_heap_new wr.drew _) (by omega) (by have := (unhide hBi).size; simp; omega) ?_
          intro g3 cap3 w3 h1 h2 h3
          have hne : g2 ≠ gi := by
            intro e
            obtain ⟨_, h⟩ := (unhide hIX)
            rcases h with ⟨hv, _⟩ | ⟨gg, cc, cur, hv, _, hh, _⟩
            · cases hv
            · injection hv with e1
              injection e1 with e1
              injection e1 with e1
              subst e1
              exact own_ne (unhide hOX) hh (by decide) e
          refine hK.out _ _ ?_ (fun hH2 => ?_)
          · exact ⟨cell_gr h2 hne hH1.1, cell_gr h2 hne hH1.2.1, cell_gr h2 hne hH1.2.2⟩
          clear hK K
          (try simp only [Act.put, List.setIfInBounds_toArray, List.set_cons_zero, List.set_cons_succ])
          refine wpAnyH_take (i := 19) (oi := { dst := some 5, op := Go.Op.assign (Go.Operand.tmp 93), type := 27, pos := _, after := #[{ on := 18, ground := Go.Ground.data }, { on := 18, ground := Go.Ground.chain }, { on := 0, ground := Go.Ground.phase }, { on := 1, ground := Go.Ground.phase }, { on := 2, ground := Go.Ground.phase }, { on := 3, ground := Go.Ground.phase }, { on := 4, ground := Go.Ground.phase }, { on := 5, ground := Go.Ground.phase }, { on := 6, ground := Go.Ground.phase }, { on := 7, ground := Go.Ground.phase }, { on := 8, ground := Go.Ground.phase }, { on := 9, ground := Go.Ground.phase }, { on := 10, ground := Go.Ground.phase }, { on := 11, ground := Go.Ground.phase }, { on := 12, ground := Go.Ground.phase }, { on := 13, ground := Go.Ground.phase }, { on := 14, ground := Go.Ground.phase }, { on := 15, ground := Go.Ground.phase }, { on := 16, ground := Go.Ground.phase }, { on := 17, ground := Go.Ground.phase }, { on := 18, ground := Go.Ground.phase }], guard := none }) (v := ?_) rfl (by kernel_rfl) (by kernel_rfl) (by kernel_rfl) (fun _ _ _ h => h) (Or.inl ⟨by rfl, ?_⟩) hH2 ?_
          rotate_left
          · (intro w hSw; (try dsimp only at hSw); go_simp <;> with_reducible rfl)
          (try simp only [Act.put, List.setIfInBounds_toArray, List.set_cons_zero, List.set_cons_succ])
          refine wpAnyH_done (by kernel_rfl) ?_ _
          refine NoPanic.normal ?_
          have hO3 := hide (show OwnC w3 w.heap.size g3 (N ++ [(3, y1, y2, y3)]).length cap3 (N ++ [(3, y1, y2, y3)]) by simpa using h1)
          have hI3 := hide (own_kept (unhide hIX) h2 hne)
          have hB3 := hide (((unhide hBi).trans (hX.mono (unhide hBi).size)).grown h2 (by have := (unhide hBi).size; have := hX.size; omega) (fun q e => by injection e with e; have := own_ge (unhide hO); omega))
          clear h1 h2 h3 hX hOX hIX hH0 hH1 hH2 e0 e1 e2 hO hI hBi
          go_wp2
          go_roundw
          case rel => exact ⟨j + 1, g3, cap3, by omega, by go_num, by rw [unhide hns]; simp, by rw [unhide hns]; exact hO3, hI3, hB3⟩
          case measure => simp [intOf]; omega
        · have hje : j = J.length := by omega
          have hNe := hide (show N = L2 ++ adds J by rw [hN, hje, List.take_length])
          have hgg := own_ge (unhide hO)
          have oO := hO
          have bO := hBi
          clear hN hI hO hBi
          by_cases hq : 0 < q
          · have hq' : decide (0 < q) = true := by simpa using hq
            have hR := hide (show changesOf l m = N ++ [(1, 0, 0, q)] by rw [unhide hchg, unhide hNe, unhide hL2]; simp only [frs, if_neg (show ¬ q = 0 by omega)])
            have kX := (Below.refl wr.heap.size wr).alloc (Nat.le_refl _) (.cells #[.int .i64 1, .int .i64 0, .int .i64 0, .int .i64 q] 60)
            have hOX := hide (ownsRow_below (unhide oO) kX)
            have hBX := hide (laterB (unhide bO) kX)
            have hXn := hide (World.alloc_heap_new wr (.cells #[.int .i64 1, .int .i64 0, .int .i64 0, .int .i64 q] 60))
            clear kX oO bO
            go_wp2_with (at_builtin; refine wpList_c Try.underlying27 _ rfl _ _ rfl w.heap.size gi N.length ci N (1, 0, 0, q) rfl (unhide hOX) wr.heap.size rfl (unhide hXn) (by omega) (by have := (unhide hBX).size; omega) ?_)
            intro zg zc zw h1 h2 h3
            have zo := hide h1
            have zb := hide ((unhide hBX).grown h2 (unhide hBX).size (fun q e => by injection e with e; have := own_ge (unhide hOX); omega))
            clear h1 h2 h3 hOX hBX hXn
            have hgz := own_ge (unhide zo)
            go_wp2
            go_ret
            rw [unhide hR]
            exact ⟨zg, zc, by simp, hgz, by simpa using unhide zo, unhide zb⟩
          · have hq' : decide (0 < q) = false := by simpa using hq
            have hR := hide (show changesOf l m = N by rw [unhide hchg, unhide hNe, unhide hL2]; simp only [frs, if_pos (show q = 0 by omega), List.append_nil])
            go_wp2
            go_ret
            rw [unhide hR]
            exact ⟨gi, ci, rfl, hgg, unhide oO, unhide bO⟩
  · have hpt : decide (0 < p) = false := by simpa using hp
    have hf1 := hide (show frs 1 p = [] by simp only [frs, if_pos (show p = 0 by omega)])
    by_cases hdp : 0 < dd
    · have hdt : decide (0 < dd) = true := by simpa using hdp
      have hf2 := hide (show frs 2 dd = [(2, 0, 0, dd)] by simp only [frs, if_neg (show ¬ dd = 0 by omega)])
      have kX := (Below.refl w6.heap.size w6).alloc (Nat.le_refl _) (.cells #[.int .i64 2, .int .i64 0, .int .i64 0, .int .i64 dd] 60)
      have hOX := hide (ownsRow_below (unhide oO) kX)
      have hBX := hide (laterB (unhide bO) kX)
      have hXn := hide (World.alloc_heap_new w6 (.cells #[.int .i64 2, .int .i64 0, .int .i64 0, .int .i64 dd] 60))
      clear kX oO bO
      go_wp2_with (at_builtin; refine wpList_c Try.underlying27 _ rfl _ _ rfl w.heap.size w.heap.size 0 0 [] (2, 0, 0, dd) rfl (unhide hOX) w6.heap.size rfl (unhide hXn) (by omega) (by have := (unhide hBX).size; omega) ?_)
      intro yg yc yw h1 h2 h3
      have yo := hide h1
      have yb := hide ((unhide hBX).grown h2 (unhide hBX).size (fun q e => by injection e with e; have := own_ge (unhide hOX); omega))
      clear h1 h2 h3 hOX hBX hXn
      obtain ⟨L2, hL⟩ : ∃ L2 : List Ch, L2 = [] ++ [(2, 0, 0, dd)] := ⟨_, rfl⟩
      have oO : Hid (OwnC yw w.heap.size yg 1 yc L2) := hide (by rw [hL]; simpa using unhide yo)
      have bO := yb
      clear yo yb
      have hL2 := hide (show frs 1 p ++ frs 2 dd = L2 by rw [unhide hf1, unhide hf2, hL])
      have hL2n := hide (show L2.length = 1 by rw [hL]; rfl)
      clear hL hf1 hf2
      obtain ⟨gO, hgO⟩ : ∃ gO, gO = yg := ⟨_, rfl⟩
      obtain ⟨cO, hcO⟩ : ∃ cO, cO = yc := ⟨_, rfl⟩
      subst hgO hcO
      go_wp2_with fail
      refine (spart_any b cb m p (clen m - q) _ (unhide hU') ⟨by omega, by omega⟩ ⟨by omega, by omega⟩ ((unhide hkm').below (unhide bO))).mono ?_
      rintro e w7 ⟨g7, c7, rfl, q7, n7, k7⟩
      have oO := hide (ownsRow_below (unhide oO) k7)
      have bO := hide (laterB (unhide bO) k7)
      have hpl := part_len m p (clen m - q)
      have hpok := hide (part_ok (unhide hU').2.1 p (clen m - q))
      have n7' := hide n7
      clear k7 n7 q7
      go_wp2_with fail
      refine (sjoin_any (some ⟨g7, 0, none⟩) c7 (part m p (clen m - q)) _ (by omega) (unhide hpok) (kls_own (unhide n7'))).mono ?_
      rintro e w8 ⟨g2, c2', rfl, q8, n8, k8⟩
      have oO := hide (ownsRow_below (unhide oO) k8)
      have bO := hide (laterB (unhide bO) k8)
      have n8' := hide (own_mono n8 (Nat.zero_le _))
      have hjl := len_join (part m p (clen m - q))
      clear k8 n8 q8 n7' hpok
      generalize hJe : join (part m p (clen m - q)) = J at *
      have hJl : J.length ≤ 300 := by omega
      have hJe' := hide hJe
      clear hJe hjl hpl
      go_wp2
      go_loopw [5, 11] (fun s t wr => ∃ j gi ci : Nat, j ≤ J.length ∧ t = .int .i64 j ∧ s = .slice (some ⟨gi, 0, none⟩) (L2 ++ adds (J.take j)).length ci ∧ Hid (OwnC wr w.heap.size gi (L2 ++ adds (J.take j)).length ci (L2 ++ adds (J.take j))) ∧ Hid (Own wr 0 g2 J.length c2' J) ∧ Hid (Below w.heap.size w wr)) (fun _ t _ => J.length - (intOf t).toNat)
      case atStart => exact ⟨0, gO, cO, by omega, rfl, by simp [adds, unhide hL2n], hide (by rw [show L2 ++ adds (J.take 0) = L2 by simp [adds], unhide hL2n]; exact unhide oO), n8', bO⟩
      case round =>
        clear oO bO n8'
        obtain ⟨j, gi, ci, hj, rfl, rfl, hO, hI, hBi⟩ := hrel
        obtain ⟨N, hN⟩ : ∃ N, N = L2 ++ adds (J.take j) := ⟨_, rfl⟩
        have hNl : N.length ≤ 1000 := by rw [hN, List.length_append, adds_len, List.length_take, unhide hL2n]; omega
        rw [← hN] at hO ⊢
        by_cases hjt : j < J.length
        · obtain ⟨⟨y1, y2, y3⟩, hy⟩ : ∃ y, J[j]? = some y := ⟨J[j], List.getElem?_eq_getElem hjt⟩
          obtain ⟨e0, e1, e2⟩ := own_cells hy (unhide hI)
          simp only at e0 e1 e2
          have hns := hide (show L2 ++ adds (J.take (j + 1)) = N ++ [(3, y1, y2, y3)] by rw [adds_snoc hy, hN, List.append_assoc])
          clear hy hN
          go_wp2_with fail
          refine wp_region_noPanic ?_
          refine wp_region_held_drew (S := fun w' => w'.cell? ⟨g2, j * 3, none⟩ = some (.int .i64 y1) ∧ w'.cell? ⟨g2, j * 3 + 1, none⟩ = some (.int .i64 y2) ∧ w'.cell? ⟨g2, j * 3 + 2, none⟩ = some (.int .i64 y3)) (by kernel_rfl) ?_ (fun hH0 => ?_)
          · exact ⟨e0, e1, e2⟩
          refine wpAnyH_take (i := 0) (oi := { dst := some 75, op := Go.Op.move (Go.Operand.tmp 5), type := 27, pos := _, after := #[], guard := none }) (v := ?_) rfl (by kernel_rfl) (by kernel_rfl) (by kernel_rfl) (fun _ _ _ h => h) (Or.inl ⟨by rfl, ?_⟩) hH0 ?_
          rotate_left
          · (intro w hSw; (try dsimp only at hSw); go_simp <;> with_reducible rfl)
          (try simp only [Act.put, List.setIfInBounds_toArray, List.set_cons_zero, List.set_cons_succ])
          refine wpAnyH_take (i := 1) (oi := { dst := some 76, op := Go.Op.move (Go.Operand.tmp 10), type := 24, pos := _, after := #[], guard := none }) (v := ?_) rfl (by kernel_rfl) (by kernel_rfl) (by kernel_rfl) (fun _ _ _ h => h) (Or.inl ⟨by rfl, ?_⟩) hH0 ?_
          rotate_left
          · (intro w hSw; (try dsimp only at hSw); go_simp <;> with_reducible rfl)
          (try simp only [Act.put, List.setIfInBounds_toArray, List.set_cons_zero, List.set_cons_succ])
          refine wpAnyH_take (i := 2) (oi := { dst := some 77, op := Go.Op.move (Go.Operand.tmp 11), type := 3, pos := _, after := #[], guard := none }) (v := ?_) rfl (by kernel_rfl) (by kernel_rfl) (by kernel_rfl) (fun _ _ _ h => h) (Or.inl ⟨by rfl, ?_⟩) hH0 ?_
          rotate_left
          · (intro w hSw; (try dsimp only at hSw); go_simp <;> with_reducible rfl)
          (try simp only [Act.put, List.setIfInBounds_toArray, List.set_cons_zero, List.set_cons_succ])
          refine wpAnyH_take (i := 3) (oi := { dst := some 78, op := Go.Op.indexAddr 24 (Go.Operand.tmp 76) (Go.Operand.tmp 77), type := 0, pos := _, after := #[{ on := 1, ground := Go.Ground.data }, { on := 2, ground := Go.Ground.data }], guard := none }) (v := ?_) rfl (by kernel_rfl) (by kernel_rfl) (by kernel_rfl) (fun _ _ _ h => h) (Or.inl ⟨by rfl, ?_⟩) hH0 ?_
          rotate_left
          · (intro w hSw; (try dsimp only at hSw); go_simp <;> with_reducible rfl)
          (try simp only [Act.put, List.setIfInBounds_toArray, List.set_cons_zero, List.set_cons_succ])
          refine wpAnyH_take (i := 4) (oi := { dst := some 79, op := Go.Op.fieldAddr 63 (Go.Operand.tmp 78) 0, type := 0, pos := _, after := #[{ on := 3, ground := Go.Ground.data }], guard := none }) (v := ?_) rfl (by kernel_rfl) (by kernel_rfl) (by kernel_rfl) (fun _ _ _ h => h) (Or.inl ⟨by rfl, ?_⟩) hH0 ?_
          rotate_left
          · (intro w hSw; (try dsimp only at hSw); go_simp <;> with_reducible rfl)
          (try simp only [Act.put, List.setIfInBounds_toArray, List.set_cons_zero, List.set_cons_succ])
          refine wpAnyH_take (i := 5) (oi := { dst := some 80, op := Go.Op.load 2 (Go.Operand.tmp 79), type := 2, pos := _, after := #[{ on := 4, ground := Go.Ground.data }], guard := none }) (v := ?_) rfl (by kernel_rfl) (by kernel_rfl) (by kernel_rfl) (fun _ _ _ h => h) (Or.inl ⟨by rfl, ?_⟩) hH0 ?_
          rotate_left
          · (intro w hSw; (try dsimp only at hSw); go_simp <;> with_reducible rfl)
          (try simp only [Act.put, List.setIfInBounds_toArray, List.set_cons_zero, List.set_cons_succ])
          refine wpAnyH_take (i := 6) (oi := { dst := some 81, op := Go.Op.move (Go.Operand.tmp 10), type := 24, pos := _, after := #[], guard := none }) (v := ?_) rfl (by kernel_rfl) (by kernel_rfl) (by kernel_rfl) (fun _ _ _ h => h) (Or.inl ⟨by rfl, ?_⟩) hH0 ?_
          rotate_left
          · (intro w hSw; (try dsimp only at hSw); go_simp <;> with_reducible rfl)
          (try simp only [Act.put, List.setIfInBounds_toArray, List.set_cons_zero, List.set_cons_succ])
          refine wpAnyH_take (i := 7) (oi := { dst := some 82, op := Go.Op.move (Go.Operand.tmp 11), type := 3, pos := _, after := #[], guard := none }) (v := ?_) rfl (by kernel_rfl) (by kernel_rfl) (by kernel_rfl) (fun _ _ _ h => h) (Or.inl ⟨by rfl, ?_⟩) hH0 ?_
          rotate_left
          · (intro w hSw; (try dsimp only at hSw); go_simp <;> with_reducible rfl)
          (try simp only [Act.put, List.setIfInBounds_toArray, List.set_cons_zero, List.set_cons_succ])
          refine wpAnyH_take (i := 8) (oi := { dst := some 83, op := Go.Op.indexAddr 24 (Go.Operand.tmp 81) (Go.Operand.tmp 82), type := 0, pos := _, after := #[{ on := 6, ground := Go.Ground.data }, { on := 7, ground := Go.Ground.data }], guard := none }) (v := ?_) rfl (by kernel_rfl) (by kernel_rfl) (by kernel_rfl) (fun _ _ _ h => h) (Or.inl ⟨by rfl, ?_⟩) hH0 ?_
          rotate_left
          · (intro w hSw; (try dsimp only at hSw); go_simp <;> with_reducible rfl)
          (try simp only [Act.put, List.setIfInBounds_toArray, List.set_cons_zero, List.set_cons_succ])
          refine wpAnyH_take (i := 9) (oi := { dst := some 84, op := Go.Op.fieldAddr 63 (Go.Operand.tmp 83) 1, type := 0, pos := _, after := #[{ on := 8, ground := Go.Ground.data }], guard := none }) (v := ?_) rfl (by kernel_rfl) (by kernel_rfl) (by kernel_rfl) (fun _ _ _ h => h) (Or.inl ⟨by rfl, ?_⟩) hH0 ?_
          rotate_left
          · (intro w hSw; (try dsimp only at hSw); go_simp <;> with_reducible rfl)
          (try simp only [Act.put, List.setIfInBounds_toArray, List.set_cons_zero, List.set_cons_succ])
          refine wpAnyH_take (i := 10) (oi := { dst := some 85, op := Go.Op.load 2 (Go.Operand.tmp 84), type := 2, pos := _, after := #[{ on := 9, ground := Go.Ground.data }], guard := none }) (v := ?_) rfl (by kernel_rfl) (by kernel_rfl) (by kernel_rfl) (fun _ _ _ h => h) (Or.inl ⟨by rfl, ?_⟩) hH0 ?_
          rotate_left
          · (intro w hSw; (try dsimp only at hSw); go_simp <;> with_reducible rfl)
          (try simp only [Act.put, List.setIfInBounds_toArray, List.set_cons_zero, List.set_cons_succ])
          refine wpAnyH_take (i := 11) (oi := { dst := some 86, op := Go.Op.move (Go.Operand.tmp 10), type := 24, pos := _, after := #[], guard := none }) (v := ?_) rfl (by kernel_rfl) (by kernel_rfl) (by kernel_rfl) (fun _ _ _ h => h) (Or.inl ⟨by rfl, ?_⟩) hH0 ?_
          rotate_left
          · (intro w hSw; (try dsimp only at hSw); go_simp <;> with_reducible rfl)
          (try simp only [Act.put, List.setIfInBounds_toArray, List.set_cons_zero, List.set_cons_succ])
          refine wpAnyH_take (i := 12) (oi := { dst := some 87, op := Go.Op.move (Go.Operand.tmp 11), type := 3, pos := _, after := #[], guard := none }) (v := ?_) rfl (by kernel_rfl) (by kernel_rfl) (by kernel_rfl) (fun _ _ _ h => h) (Or.inl ⟨by rfl, ?_⟩) hH0 ?_
          rotate_left
          · (intro w hSw; (try dsimp only at hSw); go_simp <;> with_reducible rfl)
          (try simp only [Act.put, List.setIfInBounds_toArray, List.set_cons_zero, List.set_cons_succ])
          refine wpAnyH_take (i := 13) (oi := { dst := some 88, op := Go.Op.indexAddr 24 (Go.Operand.tmp 86) (Go.Operand.tmp 87), type := 0, pos := _, after := #[{ on := 11, ground := Go.Ground.data }, { on := 12, ground := Go.Ground.data }], guard := none }) (v := ?_) rfl (by kernel_rfl) (by kernel_rfl) (by kernel_rfl) (fun _ _ _ h => h) (Or.inl ⟨by rfl, ?_⟩) hH0 ?_
          rotate_left
          · (intro w hSw; (try dsimp only at hSw); go_simp <;> with_reducible rfl)
          (try simp only [Act.put, List.setIfInBounds_toArray, List.set_cons_zero, List.set_cons_succ])
          refine wpAnyH_take (i := 14) (oi := { dst := some 89, op := Go.Op.fieldAddr 63 (Go.Operand.tmp 88) 2, type := 0, pos := _, after := #[{ on := 13, ground := Go.Ground.data }], guard := none }) (v := ?_) rfl (by kernel_rfl) (by kernel_rfl) (by kernel_rfl) (fun _ _ _ h => h) (Or.inl ⟨by rfl, ?_⟩) hH0 ?_
          rotate_left
          · (intro w hSw; (try dsimp only at hSw); go_simp <;> with_reducible rfl)
          (try simp only [Act.put, List.setIfInBounds_toArray, List.set_cons_zero, List.set_cons_succ])
          refine wpAnyH_take (i := 15) (oi := { dst := some 90, op := Go.Op.load 2 (Go.Operand.tmp 89), type := 2, pos := _, after := #[{ on := 14, ground := Go.Ground.data }], guard := none }) (v := ?_) rfl (by kernel_rfl) (by kernel_rfl) (by kernel_rfl) (fun _ _ _ h => h) (Or.inl ⟨by rfl, ?_⟩) hH0 ?_
          rotate_left
          · (intro w hSw; (try dsimp only at hSw); go_simp <;> with_reducible rfl)
          (try simp only [Act.put, List.setIfInBounds_toArray, List.set_cons_zero, List.set_cons_succ])
          refine wpAnyH_take (i := 16) (oi := { dst := some 91, op := Go.Op.build 60 #[(0, Go.Operand.const (Go.Value.int Go.IntKind.i64 3)), (1, Go.Operand.tmp 80), (2, Go.Operand.tmp 85), (3, Go.Operand.tmp 90)], type := 60, pos := _, after := #[{ on := 5, ground := Go.Ground.data }, { on := 10, ground := Go.Ground.data }, { on := 15, ground := Go.Ground.data }], guard := none }) (v := ?_) rfl (by kernel_rfl) (by kernel_rfl) (by kernel_rfl) (fun _ _ _ h => h) (Or.inl ⟨by rfl, ?_⟩) hH0 ?_
          rotate_left
          · (intro w hSw; (try dsimp only at hSw); go_simp <;> with_reducible rfl)
          (try simp only [Act.put, List.setIfInBounds_toArray, List.set_cons_zero, List.set_cons_succ])
          refine wpAnyH_ready (rs := [17]) (by kernel_rfl) (by simp) ?_
          refine AllReadyH.cons (o := { dst := some 92, op := Go.Op.buildSlice 27 1 #[(0, Go.Operand.tmp 91)], type := 27, pos := _, after := #[{ on := 16, ground := Go.Ground.data }], guard := none }) rfl (fun K hK => ?_) AllReadyH.nil
          go_simp
          refine hK.out _ _ ?_ (fun hH1 => ?_)
          · exact ⟨cell_later ((Below.refl _ _).alloc (Nat.le_refl _) _) hH0.1, cell_later ((Below.refl _ _).alloc (Nat.le_refl _) _) hH0.2.1, cell_later ((Below.refl _ _).alloc (Nat.le_refl _) _) hH0.2.2⟩
          clear hK K
          (try simp only [Act.put, List.setIfInBounds_toArray, List.set_cons_zero, List.set_cons_succ])
          refine wpAnyH_ready (rs := [18]) (by kernel_rfl) (by simp) ?_
          refine AllReadyH.cons (o := { dst := some 93, op := Go.Op.call { callee := Go.Callee.builtin Go.Builtin.append, args := #[Go.Operand.tmp 75, Go.Operand.tmp 92], argTypes := #[27, 27] }, type := 27, pos := _, after := #[{ on := 0, ground := Go.Ground.data }, { on := 17, ground := Go.Ground.data }], guard := none }) rfl (fun K hK => ?_) AllReadyH.nil
          have hX : Below wr.heap.size wr (wr.drew.alloc (.cells #[.int .i64 3, .int .i64 y1, .int .i64 y2, .int .i64 y3] 60)) := ((Below.refl wr.heap.size wr).drew).alloc (Nat.le_refl _) _
          have hOX := hide (ownsRow_below (unhide hO) hX)
          have hIX := hide (ownsRow_below (unhide hI) hX)
          refine step_c Try.underlying27 _ rfl _ _ rfl w.heap.size gi N.length ci N (3, y1, y2, y3) rfl (unhide hOX) wr.heap.size rfl (World.alloc_heap_new wr.drew _) (by omega) (by have := (unhide hBi).size; simp; omega) ?_
          intro g3 cap3 w3 h1 h2 h3
          have hne : g2 ≠ gi := by
            intro e
            obtain ⟨_, h⟩ := (unhide hIX)
            rcases h with ⟨hv, _⟩ | ⟨gg, cc, cur, hv, _, hh, _⟩
            · cases hv
            · injection hv with e1
              injection e1 with e1
              injection e1 with e1
              subst e1
              exact own_ne (unhide hOX) hh (by decide) e
          refine hK.out _ _ ?_ (fun hH2 => ?_)
          · exact ⟨cell_gr h2 hne hH1.1, cell_gr h2 hne hH1.2.1, cell_gr h2 hne hH1.2.2⟩
          clear hK K
          (try simp only [Act.put, List.setIfInBounds_toArray, List.set_cons_zero, List.set_cons_succ])
          refine wpAnyH_take (i := 19) (oi := { dst := some 5, op := Go.Op.assign (Go.Operand.tmp 93), type := 27, pos := _, after := #[{ on := 18, ground := Go.Ground.data }, { on := 18, ground := Go.Ground.chain }, { on := 0, ground := Go.Ground.phase }, { on := 1, ground := Go.Ground.phase }, { on := 2, ground := Go.Ground.phase }, { on := 3, ground := Go.Ground.phase }, { on := 4, ground := Go.Ground.phase }, { on := 5, ground := Go.Ground.phase }, { on := 6, ground := Go.Ground.phase }, { on := 7, ground := Go.Ground.phase }, { on := 8, ground := Go.Ground.phase }, { on := 9, ground := Go.Ground.phase }, { on := 10, ground := Go.Ground.phase }, { on := 11, ground := Go.Ground.phase }, { on := 12, ground := Go.Ground.phase }, { on := 13, ground := Go.Ground.phase }, { on := 14, ground := Go.Ground.phase }, { on := 15, ground := Go.Ground.phase }, { on := 16, ground := Go.Ground.phase }, { on := 17, ground := Go.Ground.phase }, { on := 18, ground := Go.Ground.phase }], guard := none }) (v := ?_) rfl (by kernel_rfl) (by kernel_rfl) (by kernel_rfl) (fun _ _ _ h => h) (Or.inl ⟨by rfl, ?_⟩) hH2 ?_
          rotate_left
          · (intro w hSw; (try dsimp only at hSw); go_simp <;> with_reducible rfl)
          (try simp only [Act.put, List.setIfInBounds_toArray, List.set_cons_zero, List.set_cons_succ])
          refine wpAnyH_done (by kernel_rfl) ?_ _
          refine NoPanic.normal ?_
          have hO3 := hide (show OwnC w3 w.heap.size g3 (N ++ [(3, y1, y2, y3)]).length cap3 (N ++ [(3, y1, y2, y3)]) by simpa using h1)
          have hI3 := hide (own_kept (unhide hIX) h2 hne)
          have hB3 := hide (((unhide hBi).trans (hX.mono (unhide hBi).size)).grown h2 (by have := (unhide hBi).size; have := hX.size; omega) (fun q e => by injection e with e; have := own_ge (unhide hO); omega))
          clear h1 h2 h3 hX hOX hIX hH0 hH1 hH2 e0 e1 e2 hO hI hBi
          go_wp2
          go_roundw
          case rel => exact ⟨j + 1, g3, cap3, by omega, by go_num, by rw [unhide hns]; simp, by rw [unhide hns]; exact hO3, hI3, hB3⟩
          case measure => simp [intOf]; omega
        · have hje : j = J.length := by omega
          have hNe := hide (show N = L2 ++ adds J by rw [hN, hje, List.take_length])
          have hgg := own_ge (unhide hO)
          have oO := hO
          have bO := hBi
          clear hN hI hO hBi
          by_cases hq : 0 < q
          · have hq' : decide (0 < q) = true := by simpa using hq
            have hR := hide (show changesOf l m = N ++ [(1, 0, 0, q)] by rw [unhide hchg, unhide hNe, unhide hL2]; simp only [frs, if_neg (show ¬ q = 0 by omega)])
            have kX := (Below.refl wr.heap.size wr).alloc (Nat.le_refl _) (.cells #[.int .i64 1, .int .i64 0, .int .i64 0, .int .i64 q] 60)
            have hOX := hide (ownsRow_below (unhide oO) kX)
            have hBX := hide (laterB (unhide bO) kX)
            have hXn := hide (World.alloc_heap_new wr (.cells #[.int .i64 1, .int .i64 0, .int .i64 0, .int .i64 q] 60))
            clear kX oO bO
            go_wp2_with (at_builtin; refine wpList_c Try.underlying27 _ rfl _ _ rfl w.heap.size gi N.length ci N (1, 0, 0, q) rfl (unhide hOX) wr.heap.size rfl (unhide hXn) (by omega) (by have := (unhide hBX).size; omega) ?_)
            intro zg zc zw h1 h2 h3
            have zo := hide h1
            have zb := hide ((unhide hBX).grown h2 (unhide hBX).size (fun q e => by injection e with e; have := own_ge (unhide hOX); omega))
            clear h1 h2 h3 hOX hBX hXn
            have hgz := own_ge (unhide zo)
            go_wp2
            go_ret
            rw [unhide hR]
            exact ⟨zg, zc, by simp, hgz, by simpa using unhide zo, unhide zb⟩
          · have hq' : decide (0 < q) = false := by simpa using hq
            have hR := hide (show changesOf l m = N by rw [unhide hchg, unhide hNe, unhide hL2]; simp only [frs, if_pos (show q = 0 by omega), List.append_nil])
            go_wp2
            go_ret
            rw [unhide hR]
            exact ⟨gi, ci, rfl, hgg, unhide oO, unhide bO⟩
    · have hdt : decide (0 < dd) = false := by simpa using hdp
      have hf2 := hide (show frs 2 dd = [] by simp only [frs, if_pos (show dd = 0 by omega)])
      obtain ⟨L2, hL⟩ : ∃ L2 : List Ch, L2 = [] := ⟨_, rfl⟩
      rw [← hL] at oO
      have hL2 := hide (show frs 1 p ++ frs 2 dd = L2 by rw [unhide hf1, unhide hf2, hL]; rfl)
      have hL2n := hide (show L2.length = 0 by rw [hL]; rfl)
      clear hL hf1 hf2
      obtain ⟨gO, hgO⟩ : ∃ gO, gO = w.heap.size := ⟨_, rfl⟩
      obtain ⟨cO, hcO⟩ : ∃ cO : Nat, cO = 0 := ⟨_, rfl⟩
      have oO : Hid (OwnC w6 w.heap.size gO 0 cO L2) := by rw [hgO, hcO]; exact oO
      go_wp2_with fail
      refine (spart_any b cb m p (clen m - q) _ (unhide hU') ⟨by omega, by omega⟩ ⟨by omega, by omega⟩ ((unhide hkm').below (unhide bO))).mono ?_
      rintro e w7 ⟨g7, c7, rfl, q7, n7, k7⟩
      have oO := hide (ownsRow_below (unhide oO) k7)
      have bO := hide (laterB (unhide bO) k7)
      have hpl := part_len m p (clen m - q)
      have hpok := hide (part_ok (unhide hU').2.1 p (clen m - q))
      have n7' := hide n7
      clear k7 n7 q7
      go_wp2_with fail
      refine (sjoin_any (some ⟨g7, 0, none⟩) c7 (part m p (clen m - q)) _ (by omega) (unhide hpok) (kls_own (unhide n7'))).mono ?_
      rintro e w8 ⟨g2, c2', rfl, q8, n8, k8⟩
      have oO := hide (ownsRow_below (unhide oO) k8)
      have bO := hide (laterB (unhide bO) k8)
      have n8' := hide (own_mono n8 (Nat.zero_le _))
      have hjl := len_join (part m p (clen m - q))
      clear k8 n8 q8 n7' hpok
      generalize hJe : join (part m p (clen m - q)) = J at *
      have hJl : J.length ≤ 300 := by omega
      have hJe' := hide hJe
      clear hJe hjl hpl
      go_wp2
      go_loopw [5, 11] (fun s t wr => ∃ j gi ci : Nat, j ≤ J.length ∧ t = .int .i64 j ∧ s = .slice (some ⟨gi, 0, none⟩) (L2 ++ adds (J.take j)).length ci ∧ Hid (OwnC wr w.heap.size gi (L2 ++ adds (J.take j)).length ci (L2 ++ adds (J.take j))) ∧ Hid (Own wr 0 g2 J.length c2' J) ∧ Hid (Below w.heap.size w wr)) (fun _ t _ => J.length - (intOf t).toNat)
      case atStart => exact ⟨0, gO, cO, by omega, rfl, by rw [hgO, hcO]; simp [adds, unhide hL2n], hide (by rw [show L2 ++ adds (J.take 0) = L2 by simp [adds], unhide hL2n]; exact unhide oO), n8', bO⟩
      case round =>
        clear oO bO n8'
        obtain ⟨j, gi, ci, hj, rfl, rfl, hO, hI, hBi⟩ := hrel
        obtain ⟨N, hN⟩ : ∃ N, N = L2 ++ adds (J.take j) := ⟨_, rfl⟩
        have hNl : N.length ≤ 1000 := by rw [hN, List.length_append, adds_len, List.length_take, unhide hL2n]; omega
        rw [← hN] at hO ⊢
        by_cases hjt : j < J.length
        · obtain ⟨⟨y1, y2, y3⟩, hy⟩ : ∃ y, J[j]? = some y := ⟨J[j], List.getElem?_eq_getElem hjt⟩
          obtain ⟨e0, e1, e2⟩ := own_cells hy (unhide hI)
          simp only at e0 e1 e2
          have hns := hide (show L2 ++ adds (J.take (j + 1)) = N ++ [(3, y1, y2, y3)] by rw [adds_snoc hy, hN, List.append_assoc])
          clear hy hN
          go_wp2_with fail
          refine wp_region_noPanic ?_
          refine wp_region_held_drew (S := fun w' => w'.cell? ⟨g2, j * 3, none⟩ = some (.int .i64 y1) ∧ w'.cell? ⟨g2, j * 3 + 1, none⟩ = some (.int .i64 y2) ∧ w'.cell? ⟨g2, j * 3 + 2, none⟩ = some (.int .i64 y3)) (by kernel_rfl) ?_ (fun hH0 => ?_)
          · exact ⟨e0, e1, e2⟩
          refine wpAnyH_take (i := 0) (oi := { dst := some 75, op := Go.Op.move (Go.Operand.tmp 5), type := 27, pos := _, after := #[], guard := none }) (v := ?_) rfl (by kernel_rfl) (by kernel_rfl) (by kernel_rfl) (fun _ _ _ h => h) (Or.inl ⟨by rfl, ?_⟩) hH0 ?_
          rotate_left
          · (intro w hSw; (try dsimp only at hSw); go_simp <;> with_reducible rfl)
          (try simp only [Act.put, List.setIfInBounds_toArray, List.set_cons_zero, List.set_cons_succ])
          refine wpAnyH_take (i := 1) (oi := { dst := some 76, op := Go.Op.move (Go.Operand.tmp 10), type := 24, pos := _, after := #[], guard := none }) (v := ?_) rfl (by kernel_rfl) (by kernel_rfl) (by kernel_rfl) (fun _ _ _ h => h) (Or.inl ⟨by rfl, ?_⟩) hH0 ?_
          rotate_left
          · (intro w hSw; (try dsimp only at hSw); go_simp <;> with_reducible rfl)
          (try simp only [Act.put, List.setIfInBounds_toArray, List.set_cons_zero, List.set_cons_succ])
          refine wpAnyH_take (i := 2) (oi := { dst := some 77, op := Go.Op.move (Go.Operand.tmp 11), type := 3, pos := _, after := #[], guard := none }) (v := ?_) rfl (by kernel_rfl) (by kernel_rfl) (by kernel_rfl) (fun _ _ _ h => h) (Or.inl ⟨by rfl, ?_⟩) hH0 ?_
          rotate_left
          · (intro w hSw; (try dsimp only at hSw); go_simp <;> with_reducible rfl)
          (try simp only [Act.put, List.setIfInBounds_toArray, List.set_cons_zero, List.set_cons_succ])
          refine wpAnyH_take (i := 3) (oi := { dst := some 78, op := Go.Op.indexAddr 24 (Go.Operand.tmp 76) (Go.Operand.tmp 77), type := 0, pos := _, after := #[{ on := 1, ground := Go.Ground.data }, { on := 2, ground := Go.Ground.data }], guard := none }) (v := ?_) rfl (by kernel_rfl) (by kernel_rfl) (by kernel_rfl) (fun _ _ _ h => h) (Or.inl ⟨by rfl, ?_⟩) hH0 ?_
          rotate_left
          · (intro w hSw; (try dsimp only at hSw); go_simp <;> with_reducible rfl)
          (try simp only [Act.put, List.setIfInBounds_toArray, List.set_cons_zero, List.set_cons_succ])
          refine wpAnyH_take (i := 4) (oi := { dst := some 79, op := Go.Op.fieldAddr 63 (Go.Operand.tmp 78) 0, type := 0, pos := _, after := #[{ on := 3, ground := Go.Ground.data }], guard := none }) (v := ?_) rfl (by kernel_rfl) (by kernel_rfl) (by kernel_rfl) (fun _ _ _ h => h) (Or.inl ⟨by rfl, ?_⟩) hH0 ?_
          rotate_left
          · (intro w hSw; (try dsimp only at hSw); go_simp <;> with_reducible rfl)
          (try simp only [Act.put, List.setIfInBounds_toArray, List.set_cons_zero, List.set_cons_succ])
          refine wpAnyH_take (i := 5) (oi := { dst := some 80, op := Go.Op.load 2 (Go.Operand.tmp 79), type := 2, pos := _, after := #[{ on := 4, ground := Go.Ground.data }], guard := none }) (v := ?_) rfl (by kernel_rfl) (by kernel_rfl) (by kernel_rfl) (fun _ _ _ h => h) (Or.inl ⟨by rfl, ?_⟩) hH0 ?_
          rotate_left
          · (intro w hSw; (try dsimp only at hSw); go_simp <;> with_reducible rfl)
          (try simp only [Act.put, List.setIfInBounds_toArray, List.set_cons_zero, List.set_cons_succ])
          refine wpAnyH_take (i := 6) (oi := { dst := some 81, op := Go.Op.move (Go.Operand.tmp 10), type := 24, pos := _, after := #[], guard := none }) (v := ?_) rfl (by kernel_rfl) (by kernel_rfl) (by kernel_rfl) (fun _ _ _ h => h) (Or.inl ⟨by rfl, ?_⟩) hH0 ?_
          rotate_left
          · (intro w hSw; (try dsimp only at hSw); go_simp <;> with_reducible rfl)
          (try simp only [Act.put, List.setIfInBounds_toArray, List.set_cons_zero, List.set_cons_succ])
          refine wpAnyH_take (i := 7) (oi := { dst := some 82, op := Go.Op.move (Go.Operand.tmp 11), type := 3, pos := _, after := #[], guard := none }) (v := ?_) rfl (by kernel_rfl) (by kernel_rfl) (by kernel_rfl) (fun _ _ _ h => h) (Or.inl ⟨by rfl, ?_⟩) hH0 ?_
          rotate_left
          · (intro w hSw; (try dsimp only at hSw); go_simp <;> with_reducible rfl)
          (try simp only [Act.put, List.setIfInBounds_toArray, List.set_cons_zero, List.set_cons_succ])
          refine wpAnyH_take (i := 8) (oi := { dst := some 83, op := Go.Op.indexAddr 24 (Go.Operand.tmp 81) (Go.Operand.tmp 82), type := 0, pos := _, after := #[{ on := 6, ground := Go.Ground.data }, { on := 7, ground := Go.Ground.data }], guard := none }) (v := ?_) rfl (by kernel_rfl) (by kernel_rfl) (by kernel_rfl) (fun _ _ _ h => h) (Or.inl ⟨by rfl, ?_⟩) hH0 ?_
          rotate_left
          · (intro w hSw; (try dsimp only at hSw); go_simp <;> with_reducible rfl)
          (try simp only [Act.put, List.setIfInBounds_toArray, List.set_cons_zero, List.set_cons_succ])
          refine wpAnyH_take (i := 9) (oi := { dst := some 84, op := Go.Op.fieldAddr 63 (Go.Operand.tmp 83) 1, type := 0, pos := _, after := #[{ on := 8, ground := Go.Ground.data }], guard := none }) (v := ?_) rfl (by kernel_rfl) (by kernel_rfl) (by kernel_rfl) (fun _ _ _ h => h) (Or.inl ⟨by rfl, ?_⟩) hH0 ?_
          rotate_left
          · (intro w hSw; (try dsimp only at hSw); go_simp <;> with_reducible rfl)
          (try simp only [Act.put, List.setIfInBounds_toArray, List.set_cons_zero, List.set_cons_succ])
          refine wpAnyH_take (i := 10) (oi := { dst := some 85, op := Go.Op.load 2 (Go.Operand.tmp 84), type := 2, pos := _, after := #[{ on := 9, ground := Go.Ground.data }], guard := none }) (v := ?_) rfl (by kernel_rfl) (by kernel_rfl) (by kernel_rfl) (fun _ _ _ h => h) (Or.inl ⟨by rfl, ?_⟩) hH0 ?_
          rotate_left
          · (intro w hSw; (try dsimp only at hSw); go_simp <;> with_reducible rfl)
          (try simp only [Act.put, List.setIfInBounds_toArray, List.set_cons_zero, List.set_cons_succ])
          refine wpAnyH_take (i := 11) (oi := { dst := some 86, op := Go.Op.move (Go.Operand.tmp 10), type := 24, pos := _, after := #[], guard := none }) (v := ?_) rfl (by kernel_rfl) (by kernel_rfl) (by kernel_rfl) (fun _ _ _ h => h) (Or.inl ⟨by rfl, ?_⟩) hH0 ?_
          rotate_left
          · (intro w hSw; (try dsimp only at hSw); go_simp <;> with_reducible rfl)
          (try simp only [Act.put, List.setIfInBounds_toArray, List.set_cons_zero, List.set_cons_succ])
          refine wpAnyH_take (i := 12) (oi := { dst := some 87, op := Go.Op.move (Go.Operand.tmp 11), type := 3, pos := _, after := #[], guard := none }) (v := ?_) rfl (by kernel_rfl) (by kernel_rfl) (by kernel_rfl) (fun _ _ _ h => h) (Or.inl ⟨by rfl, ?_⟩) hH0 ?_
          rotate_left
          · (intro w hSw; (try dsimp only at hSw); go_simp <;> with_reducible rfl)
          (try simp only [Act.put, List.setIfInBounds_toArray, List.set_cons_zero, List.set_cons_succ])
          refine wpAnyH_take (i := 13) (oi := { dst := some 88, op := Go.Op.indexAddr 24 (Go.Operand.tmp 86) (Go.Operand.tmp 87), type := 0, pos := _, after := #[{ on := 11, ground := Go.Ground.data }, { on := 12, ground := Go.Ground.data }], guard := none }) (v := ?_) rfl (by kernel_rfl) (by kernel_rfl) (by kernel_rfl) (fun _ _ _ h => h) (Or.inl ⟨by rfl, ?_⟩) hH0 ?_
          rotate_left
          · (intro w hSw; (try dsimp only at hSw); go_simp <;> with_reducible rfl)
          (try simp only [Act.put, List.setIfInBounds_toArray, List.set_cons_zero, List.set_cons_succ])
          refine wpAnyH_take (i := 14) (oi := { dst := some 89, op := Go.Op.fieldAddr 63 (Go.Operand.tmp 88) 2, type := 0, pos := _, after := #[{ on := 13, ground := Go.Ground.data }], guard := none }) (v := ?_) rfl (by kernel_rfl) (by kernel_rfl) (by kernel_rfl) (fun _ _ _ h => h) (Or.inl ⟨by rfl, ?_⟩) hH0 ?_
          rotate_left
          · (intro w hSw; (try dsimp only at hSw); go_simp <;> with_reducible rfl)
          (try simp only [Act.put, List.setIfInBounds_toArray, List.set_cons_zero, List.set_cons_succ])
          refine wpAnyH_take (i := 15) (oi := { dst := some 90, op := Go.Op.load 2 (Go.Operand.tmp 89), type := 2, pos := _, after := #[{ on := 14, ground := Go.Ground.data }], guard := none }) (v := ?_) rfl (by kernel_rfl) (by kernel_rfl) (by kernel_rfl) (fun _ _ _ h => h) (Or.inl ⟨by rfl, ?_⟩) hH0 ?_
          rotate_left
          · (intro w hSw; (try dsimp only at hSw); go_simp <;> with_reducible rfl)
          (try simp only [Act.put, List.setIfInBounds_toArray, List.set_cons_zero, List.set_cons_succ])
          refine wpAnyH_take (i := 16) (oi := { dst := some 91, op := Go.Op.build 60 #[(0, Go.Operand.const (Go.Value.int Go.IntKind.i64 3)), (1, Go.Operand.tmp 80), (2, Go.Operand.tmp 85), (3, Go.Operand.tmp 90)], type := 60, pos := _, after := #[{ on := 5, ground := Go.Ground.data }, { on := 10, ground := Go.Ground.data }, { on := 15, ground := Go.Ground.data }], guard := none }) (v := ?_) rfl (by kernel_rfl) (by kernel_rfl) (by kernel_rfl) (fun _ _ _ h => h) (Or.inl ⟨by rfl, ?_⟩) hH0 ?_
          rotate_left
          · (intro w hSw; (try dsimp only at hSw); go_simp <;> with_reducible rfl)
          (try simp only [Act.put, List.setIfInBounds_toArray, List.set_cons_zero, List.set_cons_succ])
          refine wpAnyH_ready (rs := [17]) (by kernel_rfl) (by simp) ?_
          refine AllReadyH.cons (o := { dst := some 92, op := Go.Op.buildSlice 27 1 #[(0, Go.Operand.tmp 91)], type := 27, pos := _, after := #[{ on := 16, ground := Go.Ground.data }], guard := none }) rfl (fun K hK => ?_) AllReadyH.nil
          go_simp
          refine hK.out _ _ ?_ (fun hH1 => ?_)
          · exact ⟨cell_later ((Below.refl _ _).alloc (Nat.le_refl _) _) hH0.1, cell_later ((Below.refl _ _).alloc (Nat.le_refl _) _) hH0.2.1, cell_later ((Below.refl _ _).alloc (Nat.le_refl _) _) hH0.2.2⟩
          clear hK K
          (try simp only [Act.put, List.setIfInBounds_toArray, List.set_cons_zero, List.set_cons_succ])
          refine wpAnyH_ready (rs := [18]) (by kernel_rfl) (by simp) ?_
          refine AllReadyH.cons (o := { dst := some 93, op := Go.Op.call { callee := Go.Callee.builtin Go.Builtin.append, args := #[Go.Operand.tmp 75, Go.Operand.tmp 92], argTypes := #[27, 27] }, type := 27, pos := _, after := #[{ on := 0, ground := Go.Ground.data }, { on := 17, ground := Go.Ground.data }], guard := none }) rfl (fun K hK => ?_) AllReadyH.nil
          have hX : Below wr.heap.size wr (wr.drew.alloc (.cells #[.int .i64 3, .int .i64 y1, .int .i64 y2, .int .i64 y3] 60)) := ((Below.refl wr.heap.size wr).drew).alloc (Nat.le_refl _) _
          have hOX := hide (ownsRow_below (unhide hO) hX)
          have hIX := hide (ownsRow_below (unhide hI) hX)
          refine step_c Try.underlying27 _ rfl _ _ rfl w.heap.size gi N.length ci N (3, y1, y2, y3) rfl (unhide hOX) wr.heap.size rfl (World.alloc_heap_new wr.drew _) (by omega) (by have := (unhide hBi).size; simp; omega) ?_
          intro g3 cap3 w3 h1 h2 h3
          have hne : g2 ≠ gi := by
            intro e
            obtain ⟨_, h⟩ := (unhide hIX)
            rcases h with ⟨hv, _⟩ | ⟨gg, cc, cur, hv, _, hh, _⟩
            · cases hv
            · injection hv with e1
              injection e1 with e1
              injection e1 with e1
              subst e1
              exact own_ne (unhide hOX) hh (by decide) e
          refine hK.out _ _ ?_ (fun hH2 => ?_)
          · exact ⟨cell_gr h2 hne hH1.1, cell_gr h2 hne hH1.2.1, cell_gr h2 hne hH1.2.2⟩
          clear hK K
          (try simp only [Act.put, List.setIfInBounds_toArray, List.set_cons_zero, List.set_cons_succ])
          refine wpAnyH_take (i := 19) (oi := { dst := some 5, op := Go.Op.assign (Go.Operand.tmp 93), type := 27, pos := _, after := #[{ on := 18, ground := Go.Ground.data }, { on := 18, ground := Go.Ground.chain }, { on := 0, ground := Go.Ground.phase }, { on := 1, ground := Go.Ground.phase }, { on := 2, ground := Go.Ground.phase }, { on := 3, ground := Go.Ground.phase }, { on := 4, ground := Go.Ground.phase }, { on := 5, ground := Go.Ground.phase }, { on := 6, ground := Go.Ground.phase }, { on := 7, ground := Go.Ground.phase }, { on := 8, ground := Go.Ground.phase }, { on := 9, ground := Go.Ground.phase }, { on := 10, ground := Go.Ground.phase }, { on := 11, ground := Go.Ground.phase }, { on := 12, ground := Go.Ground.phase }, { on := 13, ground := Go.Ground.phase }, { on := 14, ground := Go.Ground.phase }, { on := 15, ground := Go.Ground.phase }, { on := 16, ground := Go.Ground.phase }, { on := 17, ground := Go.Ground.phase }, { on := 18, ground := Go.Ground.phase }], guard := none }) (v := ?_) rfl (by kernel_rfl) (by kernel_rfl) (by kernel_rfl) (fun _ _ _ h => h) (Or.inl ⟨by rfl, ?_⟩) hH2 ?_
          rotate_left
          · (intro w hSw; (try dsimp only at hSw); go_simp <;> with_reducible rfl)
          (try simp only [Act.put, List.setIfInBounds_toArray, List.set_cons_zero, List.set_cons_succ])
          refine wpAnyH_done (by kernel_rfl) ?_ _
          refine NoPanic.normal ?_
          have hO3 := hide (show OwnC w3 w.heap.size g3 (N ++ [(3, y1, y2, y3)]).length cap3 (N ++ [(3, y1, y2, y3)]) by simpa using h1)
          have hI3 := hide (own_kept (unhide hIX) h2 hne)
          have hB3 := hide (((unhide hBi).trans (hX.mono (unhide hBi).size)).grown h2 (by have := (unhide hBi).size; have := hX.size; omega) (fun q e => by injection e with e; have := own_ge (unhide hO); omega))
          clear h1 h2 h3 hX hOX hIX hH0 hH1 hH2 e0 e1 e2 hO hI hBi
          go_wp2
          go_roundw
          case rel => exact ⟨j + 1, g3, cap3, by omega, by go_num, by rw [unhide hns]; simp, by rw [unhide hns]; exact hO3, hI3, hB3⟩
          case measure => simp [intOf]; omega
        · have hje : j = J.length := by omega
          have hNe := hide (show N = L2 ++ adds J by rw [hN, hje, List.take_length])
          have hgg := own_ge (unhide hO)
          have oO := hO
          have bO := hBi
          clear hN hI hO hBi
          by_cases hq : 0 < q
          · have hq' : decide (0 < q) = true := by simpa using hq
            have hR := hide (show changesOf l m = N ++ [(1, 0, 0, q)] by rw [unhide hchg, unhide hNe, unhide hL2]; simp only [frs, if_neg (show ¬ q = 0 by omega)])
            have kX := (Below.refl wr.heap.size wr).alloc (Nat.le_refl _) (.cells #[.int .i64 1, .int .i64 0, .int .i64 0, .int .i64 q] 60)
            have hOX := hide (ownsRow_below (unhide oO) kX)
            have hBX := hide (laterB (unhide bO) kX)
            have hXn := hide (World.alloc_heap_new wr (.cells #[.int .i64 1, .int .i64 0, .int .i64 0, .int .i64 q] 60))
            clear kX oO bO
            go_wp2_with (at_builtin; refine wpList_c Try.underlying27 _ rfl _ _ rfl w.heap.size gi N.length ci N (1, 0, 0, q) rfl (unhide hOX) wr.heap.size rfl (unhide hXn) (by omega) (by have := (unhide hBX).size; omega) ?_)
            intro zg zc zw h1 h2 h3
            have zo := hide h1
            have zb := hide ((unhide hBX).grown h2 (unhide hBX).size (fun q e => by injection e with e; have := own_ge (unhide hOX); omega))
            clear h1 h2 h3 hOX hBX hXn
            have hgz := own_ge (unhide zo)
            go_wp2
            go_ret
            rw [unhide hR]
            exact ⟨zg, zc, by simp, hgz, by simpa using unhide zo, unhide zb⟩
          · have hq' : decide (0 < q) = false := by simpa using hq
            have hR := hide (show changesOf l m = N by rw [unhide hchg, unhide hNe, unhide hL2]; simp only [frs, if_pos (show q = 0 by omega), List.append_nil])
            go_wp2
            go_ret
            rw [unhide hR]
            exact ⟨gi, ci, rfl, hgg, unhide oO, unhide bO⟩

end Go.Proofs.Ytfcjdempigoiiaa
