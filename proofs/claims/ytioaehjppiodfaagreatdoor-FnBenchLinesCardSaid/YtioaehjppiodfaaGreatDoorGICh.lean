/-
  Changes of the program: its contract.
-/
import Derived.Test.YtioaehjppiodfaaGreatDoorGBwd
import Derived.Test.YtioaehjppiodfaaGreatDoorGSTn
import Derived.Lib.MinMax
namespace Go.Proofs.YtioaehjppiodfaaGreatDoor
open Go.RowKit
set_option linter.unusedVariables false
set_option linter.unusedSimpArgs false

def ListR (w w' : World) (L : List Ch) (e : Ending) : Prop := ∃ g c, e = .returned (.slice (some ⟨g, 0, none⟩) L.length c) ∧ w.heap.size ≤ g ∧ OwnC w' w.heap.size g L.length c L ∧ Below w.heap.size w w'
theorem ListR.none {w wx : World} {L : List Ch} (hr : L = []) (hb : Below w.heap.size w wx) : ListR w (wx.alloc (.cells #[] 103)) L (.returned (.slice (some ⟨wx.heap.size, 0, none⟩) 0 0)) := by
  subst hr
  exact ⟨wx.heap.size, 0, rfl, hb.size, ownc_lit0 wx hb.size, hb.alloc hb.size _⟩

theorem blk2' {X : World} {b : Nat} {t : TypeId} {v0 v1 : Value} (h : X.heap[b]? = some (.cells #[v0, v1] t (0, 0))) :
    X.cell? ⟨b, 0, none⟩ = some v0 ∧ X.cell? ⟨b, 1, none⟩ = some v1 := by
  refine ⟨?_, ?_⟩ <;> simp [World.cell?, h]

set_option maxRecDepth 100000 in
set_option maxHeartbeats 6400000 in
theorem ichanges_no (a b : Option Addr) (ca cb : Nat) (l m : List Kl) (w : World) (hl0 : l.length ≤ maxLen) (hm0 : m.length ≤ maxLen) (hk : Kls w a l) (hkm : Kls w b m) (hno : ¬ (TOk l ∧ TOk m)) :
    Calls Tryz.prog 79 #[.slice a l.length ca, .slice b m.length cb] w fun e w' => ListR w w' (changesOf l m) e := by
  have hk' := hide hk
  have hkm' := hide hkm
  have hr := hide (changes_no hno)
  have hno' := hide hno
  clear hk hkm hno
  have hA : ∃ (a' : Option Addr) (n c : Nat) (y : Int) (z : Bool), Hid (∀ W, Kls W a l → Calls Tryz.prog 110 #[.slice a l.length ca] W fun e w' => e = .returned (.tuple #[.agg #[.slice a' n c, .int .i64 y], .bool z]) ∧ Below W.heap.size W w') ∧ Hid (z = decide (TOk l)) := by
    by_cases h : TOk l
    · exact ⟨_, _, _, _, true, hide (fun W hW => opened_ok a ca l W h hW), hide (decide_eq_true h).symm⟩
    · exact ⟨_, _, _, _, false, hide (fun W hW => opened_no a ca l W hl0 h hW), hide (decide_eq_false h).symm⟩
  have hB : ∃ (a' : Option Addr) (n c : Nat) (y : Int) (z : Bool), Hid (∀ W, Kls W b m → Calls Tryz.prog 110 #[.slice b m.length cb] W fun e w' => e = .returned (.tuple #[.agg #[.slice a' n c, .int .i64 y], .bool z]) ∧ Below W.heap.size W w') ∧ Hid (z = decide (TOk m)) := by
    by_cases h : TOk m
    · exact ⟨_, _, _, _, true, hide (fun W hW => opened_ok b cb m W h hW), hide (decide_eq_true h).symm⟩
    · exact ⟨_, _, _, _, false, hide (fun W hW => opened_no b cb m W hm0 h hW), hide (decide_eq_false h).symm⟩
  obtain ⟨a1, n1, k1, y1, z1, hA, hz1⟩ := hA
  obtain ⟨a2, n2, k2, y2, z2, hB, hz2⟩ := hB
  cases z1
  · cases z2
    all_goals
      go_enter Tryz.func79, Tryz.ntmps79
      go_wp2_with fail
      refine (unhide hA w (unhide hk')).mono ?_
      rintro e w1 ⟨rfl, hb⟩
      have HB1 := hide (hb.alloc hb.size (.cells #[.slice a1 n1 k1, .int .i64 y1] 133))
      clear hb
      go_wp2_with fail
      generalize w1.alloc (.cells #[.slice a1 n1 k1, .int .i64 y1] 133) = w2 at *
      generalize w1.heap.size = T1 at *
      refine (unhide hB w2 ((unhide hkm').below (unhide HB1))).mono ?_
      rintro e w3 ⟨rfl, hb⟩
      have HB := hide ((laterB (unhide HB1) hb).alloc (Nat.le_trans (unhide HB1).size hb.size) (.cells #[.slice a2 n2 k2, .int .i64 y2] 133))
      clear hb HB1
      go_wp2
      go_ret
      have hX := ListR.none (unhide hr) (unhide HB)
      rw [World.size_alloc] at hX
      exact hX
  · cases z2
    case true =>
      exact absurd ⟨of_decide_eq_true (unhide hz1).symm, of_decide_eq_true (unhide hz2).symm⟩ (unhide hno')
    go_enter Tryz.func79, Tryz.ntmps79
    go_wp2_with fail
    refine (unhide hA w (unhide hk')).mono ?_
    rintro e w1 ⟨rfl, hb⟩
    have HB1 := hide (hb.alloc hb.size (.cells #[.slice a1 n1 k1, .int .i64 y1] 133))
    clear hb
    go_wp2_with fail
    generalize w1.alloc (.cells #[.slice a1 n1 k1, .int .i64 y1] 133) = w2 at *
    generalize w1.heap.size = T1 at *
    refine (unhide hB w2 ((unhide hkm').below (unhide HB1))).mono ?_
    rintro e w3 ⟨rfl, hb⟩
    have HB := hide ((laterB (unhide HB1) hb).alloc (Nat.le_trans (unhide HB1).size hb.size) (.cells #[.slice a2 n2 k2, .int .i64 y2] 133))
    clear hb HB1
    go_wp2
    go_ret
    have hX := ListR.none (unhide hr) (unhide HB)
    rw [World.size_alloc] at hX
    exact hX

set_option maxRecDepth 100000 in
set_option maxHeartbeats 12800000 in
theorem ichanges_yes (a b : Option Addr) (ca cb : Nat) (l m : List Kl) (w : World) (hT : TOk l) (hU : TOk m) (hk : Kls w a l) (hkm : Kls w b m) :
    Calls Tryz.prog 79 #[.slice a l.length ca, .slice b m.length cb] w fun e w' => ListR w w' (changesOf l m) e := by
  have hk' := hide hk
  have hkm' := hide hkm
  have hT' := hide hT
  have hU' := hide hU
  have hlT : l.length ≤ 300 := hT.1
  have hlU : m.length ≤ 300 := hU.1
  have c1 := hT.2.2
  have c2 := hU.2.2
  have c3 := clen_nonneg hT.2.1
  have c4 := clen_nonneg hU.2.1
  obtain ⟨y1, hy1⟩ : ∃ y : Int, y = clen l := ⟨_, rfl⟩
  obtain ⟨y2, hy2⟩ : ∃ y : Int, y = clen m := ⟨_, rfl⟩
  rw [← hy1] at c1 c3
  rw [← hy2] at c2 c4
  have hy1' := hide hy1
  have hy2' := hide hy2
  clear hk hkm hT hU
  go_enter Tryz.func79, Tryz.ntmps79
  go_wp2_with fail
  refine (opened_ok a ca l _ (unhide hT') (unhide hk')).mono ?_
  rintro e w1 ⟨rfl, hb⟩
  rw [← hy1]
  clear hy1
  have HB1 := hide (hb.alloc hb.size (.cells #[.slice a l.length ca, .int .i64 y1] 133))
  have hs1 : w.heap.size ≤ w1.heap.size := hb.size
  have E1 := World.alloc_heap_new w1 (.cells #[.slice a l.length ca, .int .i64 y1] 133)
  clear hb
  go_wp2_with fail
  generalize w1.alloc (.cells #[.slice a l.length ca, .int .i64 y1] 133) = w2 at *
  generalize w1.heap.size = T1 at *
  refine (opened_ok b cb m _ (unhide hU') ((unhide hkm').below (unhide HB1))).mono ?_
  rintro e w3 ⟨rfl, hb⟩
  rw [← hy2]
  clear hy2
  have hT1l : T1 < w2.heap.size := (Array.getElem?_eq_some_iff.1 E1).1
  have hT12 : T1 < w3.heap.size := Nat.lt_of_lt_of_le hT1l hb.size
  have HB := hide ((laterB (unhide HB1) hb).alloc (Nat.le_trans (unhide HB1).size hb.size) (.cells #[.slice b m.length cb, .int .i64 y2] 133))
  obtain ⟨e0, e1⟩ := blk2' ((Below.heap_alloc w3 (.cells #[.slice b m.length cb, .int .i64 y2] 133) T1 hT12).trans ((hb.block T1 hT1l).trans E1))
  obtain ⟨f0, f1⟩ := blk2' (World.alloc_heap_new w3 (.cells #[.slice b m.length cb, .int .i64 y2] 133))
  have hT2 : w3.heap.size < (w3.alloc (.cells #[.slice b m.length cb, .int .i64 y2] 133)).heap.size := by simp
  clear hb HB1 E1 hT1l
  go_wp2_with fail
  generalize w3.alloc (.cells #[.slice b m.length cb, .int .i64 y2] 133) = w4 at *
  generalize w3.heap.size = T2 at *
  refine (begins_any a b ca cb l m _ (unhide hT') (unhide hU') ((unhide hk').below (unhide HB)) ((unhide hkm').below (unhide HB))).mono ?_
  rintro e w5 ⟨p, rfl, hp, hb⟩
  obtain ⟨mn, hmn⟩ : ∃ mn, min y1 y2 = mn := ⟨_, rfl⟩
  rw [← unhide hy1', ← unhide hy2', hmn] at hp
  have p0 : 0 ≤ p := hp.1
  have p1 : p ≤ mn := hp.2.1
  have m1 : mn ≤ y1 := by omega
  have m2 : mn ≤ y2 := by omega
  have hwr : IntKind.i64.wrap (mn - p) = mn - p := by rw [IntKind.wrap_i64]; omega
  have hp' := hide hp
  replace e0 := cell_later hb e0
  replace e1 := cell_later hb e1
  replace f0 := cell_later hb f0
  replace f1 := cell_later hb f1
  replace hT2 := Nat.lt_of_lt_of_le hT2 hb.size
  replace HB := hide (laterB (unhide HB) hb)
  clear hp hb
  go_wp2_with fail
  refine wp_region_noPanic ?_
  refine wp_region_held_drew (S := fun w' => w'.cell? ⟨T1, 0, none⟩ = some (.slice a l.length ca) ∧ w'.cell? ⟨T1, 1, none⟩ = some (.int .i64 y1) ∧ w'.cell? ⟨T2, 0, none⟩ = some (.slice b m.length cb) ∧ w'.cell? ⟨T2, 1, none⟩ = some (.int .i64 y2) ∧ Below w.heap.size w w') (by kernel_rfl) ?_ (fun hH0 => ?_)
  · exact ⟨e0, e1, f0, f1, (unhide HB).drew⟩
  refine wpAnyH_take (i := 0) (oi := { dst := some 34, op := Go.Op.fieldAddr 133 (Go.Operand.tmp 5) 0, type := 0, pos := _, after := #[], guard := none }) (v := ?_) rfl (by kernel_rfl) (by kernel_rfl) (by kernel_rfl) (fun _ _ _ h => h) (Or.inl ⟨by rfl, ?_⟩) hH0 ?_
  rotate_left
  · (intro w hSw; (try dsimp only at hSw); go_simp <;> with_reducible rfl)
  (try simp only [Act.put, List.setIfInBounds_toArray, List.set_cons_zero, List.set_cons_succ])
  refine wpAnyH_take (i := 1) (oi := { dst := some 35, op := Go.Op.load 78 (Go.Operand.tmp 34), type := 78, pos := _, after := #[{ on := 0, ground := Go.Ground.data }], guard := none }) (v := ?_) rfl (by kernel_rfl) (by kernel_rfl) (by kernel_rfl) (fun _ _ _ h => h) (Or.inl ⟨by rfl, ?_⟩) hH0 ?_
  rotate_left
  · (intro w hSw; (try dsimp only at hSw); go_simp <;> with_reducible rfl)
  (try simp only [Act.put, List.setIfInBounds_toArray, List.set_cons_zero, List.set_cons_succ])
  refine wpAnyH_take (i := 3) (oi := { dst := some 37, op := Go.Op.fieldAddr 133 (Go.Operand.tmp 7) 0, type := 0, pos := _, after := #[], guard := none }) (v := ?_) rfl (by kernel_rfl) (by kernel_rfl) (by kernel_rfl) (fun _ _ _ h => h) (Or.inl ⟨by rfl, ?_⟩) hH0 ?_
  rotate_left
  · (intro w hSw; (try dsimp only at hSw); go_simp <;> with_reducible rfl)
  (try simp only [Act.put, List.setIfInBounds_toArray, List.set_cons_zero, List.set_cons_succ])
  refine wpAnyH_take (i := 4) (oi := { dst := some 38, op := Go.Op.load 78 (Go.Operand.tmp 37), type := 78, pos := _, after := #[{ on := 3, ground := Go.Ground.data }], guard := none }) (v := ?_) rfl (by kernel_rfl) (by kernel_rfl) (by kernel_rfl) (fun _ _ _ h => h) (Or.inl ⟨by rfl, ?_⟩) hH0 ?_
  rotate_left
  · (intro w hSw; (try dsimp only at hSw); go_simp <;> with_reducible rfl)
  (try simp only [Act.put, List.setIfInBounds_toArray, List.set_cons_zero, List.set_cons_succ])
  refine wpAnyH_take (i := 7) (oi := { dst := some 41, op := Go.Op.fieldAddr 133 (Go.Operand.tmp 5) 1, type := 0, pos := _, after := #[], guard := none }) (v := ?_) rfl (by kernel_rfl) (by kernel_rfl) (by kernel_rfl) (fun _ _ _ h => h) (Or.inl ⟨by rfl, ?_⟩) hH0 ?_
  rotate_left
  · (intro w hSw; (try dsimp only at hSw); go_simp <;> with_reducible rfl)
  (try simp only [Act.put, List.setIfInBounds_toArray, List.set_cons_zero, List.set_cons_succ])
  refine wpAnyH_take (i := 8) (oi := { dst := some 42, op := Go.Op.load 2 (Go.Operand.tmp 41), type := 2, pos := _, after := #[{ on := 7, ground := Go.Ground.data }], guard := none }) (v := ?_) rfl (by kernel_rfl) (by kernel_rfl) (by kernel_rfl) (fun _ _ _ h => h) (Or.inl ⟨by rfl, ?_⟩) hH0 ?_
  rotate_left
  · (intro w hSw; (try dsimp only at hSw); go_simp <;> with_reducible rfl)
  (try simp only [Act.put, List.setIfInBounds_toArray, List.set_cons_zero, List.set_cons_succ])
  refine wpAnyH_take (i := 9) (oi := { dst := some 43, op := Go.Op.fieldAddr 133 (Go.Operand.tmp 7) 1, type := 0, pos := _, after := #[], guard := none }) (v := ?_) rfl (by kernel_rfl) (by kernel_rfl) (by kernel_rfl) (fun _ _ _ h => h) (Or.inl ⟨by rfl, ?_⟩) hH0 ?_
  rotate_left
  · (intro w hSw; (try dsimp only at hSw); go_simp <;> with_reducible rfl)
  (try simp only [Act.put, List.setIfInBounds_toArray, List.set_cons_zero, List.set_cons_succ])
  refine wpAnyH_take (i := 10) (oi := { dst := some 44, op := Go.Op.load 2 (Go.Operand.tmp 43), type := 2, pos := _, after := #[{ on := 9, ground := Go.Ground.data }], guard := none }) (v := ?_) rfl (by kernel_rfl) (by kernel_rfl) (by kernel_rfl) (fun _ _ _ h => h) (Or.inl ⟨by rfl, ?_⟩) hH0 ?_
  rotate_left
  · (intro w hSw; (try dsimp only at hSw); go_simp <;> with_reducible rfl)
  (try simp only [Act.put, List.setIfInBounds_toArray, List.set_cons_zero, List.set_cons_succ])
  refine wpAnyH_take (i := 11) (oi := { dst := some 45, op := Go.Op.call { callee := Go.Callee.builtin Go.Builtin.min, args := #[Go.Operand.tmp 42, Go.Operand.tmp 44], argTypes := #[2, 2] }, type := 2, pos := _, after := #[{ on := 8, ground := Go.Ground.data }, { on := 10, ground := Go.Ground.data }], guard := none }) (v := ?_) rfl (by kernel_rfl) (by kernel_rfl) (by kernel_rfl) (fun _ _ _ h => h) (Or.inl ⟨by rfl, ?_⟩) hH0 ?_
  rotate_left
  · (intro w hSw; (try dsimp only at hSw); go_simp <;> with_reducible rfl)
  (try simp only [Act.put, List.setIfInBounds_toArray, List.set_cons_zero, List.set_cons_succ])
  (try rw [hmn])
  refine wpAnyH_take (i := 12) (oi := { dst := some 46, op := Go.Op.move (Go.Operand.tmp 9), type := 2, pos := _, after := #[], guard := none }) (v := ?_) rfl (by kernel_rfl) (by kernel_rfl) (by kernel_rfl) (fun _ _ _ h => h) (Or.inl ⟨by rfl, ?_⟩) hH0 ?_
  rotate_left
  · (intro w hSw; (try dsimp only at hSw); go_simp <;> with_reducible rfl)
  (try simp only [Act.put, List.setIfInBounds_toArray, List.set_cons_zero, List.set_cons_succ])
  refine wpAnyH_take (i := 13) (oi := { dst := some 47, op := Go.Op.binOp Go.BinOp.sub 2 (Go.Operand.tmp 45) (Go.Operand.tmp 46) 2, type := 2, pos := _, after := #[{ on := 11, ground := Go.Ground.data }, { on := 12, ground := Go.Ground.data }], guard := none }) (v := ?_) rfl (by kernel_rfl) (by kernel_rfl) (by kernel_rfl) (fun _ _ _ h => h) (Or.inl ⟨by rfl, ?_⟩) hH0 ?_
  rotate_left
  · (intro w hSw; (try dsimp only at hSw); go_simp <;> with_reducible rfl)
  (try simp only [Act.put, List.setIfInBounds_toArray, List.set_cons_zero, List.set_cons_succ])
  (try rw [hwr])
  refine wpAnyH_ready (rs := [2]) (by kernel_rfl) (by simp) ?_
  refine AllReadyH.cons (o := { dst := some 36, op := Go.Op.call { callee := Go.Callee.value (Go.Operand.func 115), args := #[Go.Operand.tmp 35], argTypes := #[78] }, type := 78, pos := _, after := #[{ on := 1, ground := Go.Ground.data }], guard := none }) rfl (fun K hK => ?_) AllReadyH.nil
  go_simp
  refine (mirrored_any a ca l _ (unhide hT') ((unhide hk').below hH0.2.2.2.2)).mono ?_
  rintro e wa ⟨ga, cga, rfl, qa, na, ka⟩
  refine hK.out _ _ ?_ (fun hH1 => ?_)
  · exact ⟨cell_later ka hH0.1, cell_later ka hH0.2.1, cell_later ka hH0.2.2.1, cell_later ka hH0.2.2.2.1, laterB hH0.2.2.2.2 ka⟩
  clear hK K
  (try simp only [Act.put, List.setIfInBounds_toArray, List.set_cons_zero, List.set_cons_succ])
  refine wpAnyH_ready (rs := [5]) (by kernel_rfl) (by simp) ?_
  refine AllReadyH.cons (o := { dst := some 39, op := Go.Op.call { callee := Go.Callee.value (Go.Operand.func 115), args := #[Go.Operand.tmp 38], argTypes := #[78] }, type := 78, pos := _, after := #[{ on := 4, ground := Go.Ground.data }, { on := 2, ground := Go.Ground.chain }], guard := none }) rfl (fun K hK => ?_) AllReadyH.nil
  go_simp
  refine (mirrored_any b cb m _ (unhide hU') ((unhide hkm').below hH1.2.2.2.2)).mono ?_
  rintro e wb ⟨gb, cgb, rfl, qb, nb, kb⟩
  refine hK.out _ _ ?_ (fun hH2 => ?_)
  · exact ⟨cell_later kb hH1.1, cell_later kb hH1.2.1, cell_later kb hH1.2.2.1, cell_later kb hH1.2.2.2.1, laterB hH1.2.2.2.2 kb⟩
  clear hK K
  (try simp only [Act.put, List.setIfInBounds_toArray, List.set_cons_zero, List.set_cons_succ])
  refine wpAnyH_ready (rs := [6]) (by kernel_rfl) (by simp) ?_
  refine AllReadyH.cons (o := { dst := some 40, op := Go.Op.call { callee := Go.Callee.value (Go.Operand.func 114), args := #[Go.Operand.tmp 36, Go.Operand.tmp 39], argTypes := #[78, 78] }, type := 2, pos := _, after := #[{ on := 2, ground := Go.Ground.data }, { on := 5, ground := Go.Ground.data }, { on := 5, ground := Go.Ground.chain }], guard := none }) rfl (fun K hK => ?_) AllReadyH.nil
  go_simp
  refine (begins_any (some ⟨ga, 0, none⟩) (some ⟨gb, 0, none⟩) cga cgb (mir l) (mir m) _ (mir_tok (unhide hT')) (mir_tok (unhide hU')) (kls_own (ownsRow_below na kb)) (kls_own nb)).mono ?_
  rintro e wc ⟨k, rfl, hkp, kc⟩
  refine hK.out _ _ ?_ (fun hH3 => ?_)
  · exact ⟨cell_later kc hH2.1, cell_later kc hH2.2.1, cell_later kc hH2.2.2.1, cell_later kc hH2.2.2.2.1, laterB hH2.2.2.2.2 kc⟩
  clear hK K
  (try simp only [Act.put, List.setIfInBounds_toArray, List.set_cons_zero, List.set_cons_succ])
  refine wpAnyH_take (i := 14) (oi := { dst := some 48, op := Go.Op.call { callee := Go.Callee.builtin Go.Builtin.min, args := #[Go.Operand.tmp 40, Go.Operand.tmp 47], argTypes := #[2, 2] }, type := 2, pos := _, after := #[{ on := 6, ground := Go.Ground.data }, { on := 13, ground := Go.Ground.data }], guard := none }) (v := ?_) rfl (by kernel_rfl) (by kernel_rfl) (by kernel_rfl) (fun _ _ _ h => h) (Or.inl ⟨by rfl, ?_⟩) hH3 ?_
  rotate_left
  · (intro w hSw; (try dsimp only at hSw); go_simp <;> with_reducible rfl)
  (try simp only [Act.put, List.setIfInBounds_toArray, List.set_cons_zero, List.set_cons_succ])
  obtain ⟨q, hq⟩ : ∃ q, q = min k (mn - p) := ⟨_, rfl⟩
  rw [← hq]
  replace hq := hide hq
  refine wpAnyH_take (i := 15) (oi := { dst := some 10, op := Go.Op.assign (Go.Operand.tmp 48), type := 2, pos := _, after := #[{ on := 14, ground := Go.Ground.data }, { on := 6, ground := Go.Ground.chain }, { on := 0, ground := Go.Ground.phase }, { on := 1, ground := Go.Ground.phase }, { on := 2, ground := Go.Ground.phase }, { on := 3, ground := Go.Ground.phase }, { on := 4, ground := Go.Ground.phase }, { on := 5, ground := Go.Ground.phase }, { on := 6, ground := Go.Ground.phase }, { on := 7, ground := Go.Ground.phase }, { on := 8, ground := Go.Ground.phase }, { on := 9, ground := Go.Ground.phase }, { on := 10, ground := Go.Ground.phase }, { on := 11, ground := Go.Ground.phase }, { on := 12, ground := Go.Ground.phase }, { on := 13, ground := Go.Ground.phase }, { on := 14, ground := Go.Ground.phase }], guard := none }) (v := ?_) rfl (by kernel_rfl) (by kernel_rfl) (by kernel_rfl) (fun _ _ _ h => h) (Or.inl ⟨by rfl, ?_⟩) hH3 ?_
  rotate_left
  · (intro w hSw; (try dsimp only at hSw); go_simp <;> with_reducible rfl)
  (try simp only [Act.put, List.setIfInBounds_toArray, List.set_cons_zero, List.set_cons_succ])
  refine wpAnyH_done (by kernel_rfl) ?_ _
  refine NoPanic.normal ?_
  obtain ⟨E0, E1, F0, F1, HB3⟩ := hH3
  have hq1 := (unhide hp')
  rw [clen_mir, clen_mir, ← unhide hy1', ← unhide hy2', hmn] at hkp
  have hq2 := hkp.cut (most' := mn - p) (by omega) (by omega)
  rw [← unhide hq] at hq2
  have q0 : 0 ≤ q := hq2.1
  have q1 : q ≤ mn - p := hq2.2.1
  have hchg := hide (changes_yes ⟨unhide hT', unhide hU'⟩ (by rw [← unhide hy1', ← unhide hy2', hmn]; exact hq1) (by rw [← unhide hy1', ← unhide hy2', hmn]; exact hq2))
  have hT2c : T2 < wc.heap.size := World.block_lt_of_cell? _ _ F0
  have HB4 := hide HB3
  clear hq hq1 hq2 hkp hH0 hH1 hH2 HB3 HB e0 e1 f0 f1 na nb ka kb kc hT2 hmn hwr
  clear qa qb
  obtain ⟨g0, hg0⟩ : ∃ g0, g0 = wc.heap.size := ⟨_, rfl⟩
  have hX := (Below.refl wc.heap.size wc).alloc (Nat.le_refl _) (.cells #[] 103)
  have E1x := cell_later hX E1
  have F0x := cell_later hX F0
  have F1x := cell_later hX F1
  have HBx := hide (laterB (unhide HB4) hX)
  have ox := hide (ownc_lit0 wc (unhide HB4).size)
  clear hX E0 E1 F0 F1
  have hsx := (unhide HBx).size
  go_wp2_with fail
  rw [← hg0] at ox ⊢
  have hTg : T2 < g0 := by omega
  clear hg0 hT2c
  generalize wc.alloc (.cells #[] 103) = w6 at *
  have af1 := afr_any w.heap.size g0 0 [] 1 p w6 (by simp) hsx (unhide ox)
  simp only [List.length_nil, List.nil_append] at af1
  refine af1.mono ?_
  clear af1
  rintro e w7 ⟨g1, h1c, rfl, n1, k1, z1⟩
  replace E1x := cell_gr k1 (by omega) E1x
  replace F0x := cell_gr k1 (by omega) F0x
  replace F1x := cell_gr k1 (by omega) F1x
  have hTs6 : T2 < w6.heap.size := by have := own_lt (unhide ox); omega
  have hg1 : T2 < g1 := by rcases z1 with h | h <;> omega
  have HB7 := hide ((unhide HBx).grown k1 (unhide HBx).size (fun q e => by injection e with e; have := own_ge (unhide ox); omega))
  obtain ⟨N1, hN1⟩ : ∃ N, N = frs 1 p := ⟨_, rfl⟩
  have hN1l : N1.length ≤ 1 := by rw [hN1]; exact frs_len _ _
  rw [← hN1] at n1 ⊢
  replace hN1 := hide hN1
  have n1' := hide n1
  have hs7 := (unhide HB7).size
  clear k1 z1 n1 HBx ox hsx hTs6 hTg HB4
  go_wp2_with fail
  refine (afr_any w.heap.size g1 h1c N1 2 (y1 - p - q) _ (by omega) hs7 (unhide n1')).mono ?_
  rintro e w8 ⟨g2, h2c, rfl, n2, k2, z2⟩
  have hTs7 : T2 < w7.heap.size := by have := own_lt (unhide n1'); omega
  have hg2 : T2 < g2 := by rcases z2 with h | h <;> omega
  replace F0x := cell_gr k2 (by omega) F0x
  replace F1x := cell_gr k2 (by omega) F1x
  have HB8 := hide ((unhide HB7).grown k2 (unhide HB7).size (fun q e => by injection e with e; have := own_ge (unhide n1'); omega))
  obtain ⟨N2, hN2⟩ : ∃ N, N = N1 ++ frs 2 (y1 - p - q) := ⟨_, rfl⟩
  have hN2l : N2.length ≤ 2 := by rw [hN2, List.length_append]; have := frs_len 2 (y1 - p - q); omega
  rw [← hN2] at n2 ⊢
  replace hN2 := hide hN2
  have n2' := hide n2
  clear k2 z2 n2 HB7 n1' hs7 hTs7 hg1 E1x
  go_wp2_with fail
  refine (ipart_any b cb m p (y2 - q) _ (unhide hU') ⟨by omega, by omega⟩ ⟨by omega, by omega⟩ ((unhide hkm').below (unhide HB8))).mono ?_
  rintro e w9 ⟨g9, c9, rfl, q9, n9, k9⟩
  have HB9 := hide (laterB (unhide HB8) k9)
  have hs9 := (unhide HB9).size
  have o2 := hide (ownsRow_below (unhide n2') k9)
  obtain ⟨Pm, hPm⟩ : ∃ Pm, Pm = part m p (y2 - q) := ⟨_, rfl⟩
  have hPl : Pm.length ≤ 300 := by rw [hPm]; exact Nat.le_trans (part_len m p (y2 - q)) hlU
  have hPo := hide (show AOk Pm by rw [hPm]; exact part_ok (unhide hU').2.1 p (y2 - q))
  rw [← hPm] at n9 ⊢
  replace hPm := hide hPm
  have n9' := hide n9
  clear n9 k9 q9 HB8 n2' F0x F1x
  go_wp2_with fail
  refine (aad_any w.heap.size g2 h2c N2 (some ⟨g9, 0, none⟩) c9 Pm _ (by omega) (by omega) (unhide hPo) hs9 (kls_own (unhide n9')) (unhide o2)).mono ?_
  rintro e w10 ⟨g3, h3c, rfl, n3, k3, z3⟩
  have HB10 := hide ((unhide HB9).grown k3 (unhide HB9).size (fun q e => by injection e with e; have := own_ge (unhide o2); omega))
  have hs10 := (unhide HB10).size
  obtain ⟨N3, hN3⟩ : ∃ N, N = N2 ++ adds (join Pm) := ⟨_, rfl⟩
  have hN3l : N3.length ≤ 302 := by rw [hN3, List.length_append, adds_len]; have := len_join Pm; omega
  rw [← hN3] at n3 ⊢
  replace hN3 := hide hN3
  have n3' := hide n3
  clear n3 k3 z3 HB9 o2 n9'
  go_wp2_with fail
  refine (afr_any w.heap.size g3 h3c N3 1 q _ (by omega) hs10 (unhide n3')).mono ?_
  rintro e w11 ⟨g4, h4c, rfl, n4, k4, z4⟩
  have HB11 := hide ((unhide HB10).grown k4 (unhide HB10).size (fun q e => by injection e with e; have := own_ge (unhide n3'); omega))
  have hN4 : N3 ++ frs 1 q = changesOf l m := by rw [unhide hchg, unhide hN3, unhide hN2, unhide hN1, unhide hPm, unhide hy1', unhide hy2']
  rw [hN4] at n4 ⊢
  have n4' := hide n4
  clear n4 k4 z4 hN4
  go_wp2
  go_ret
  exact ⟨g4, h4c, rfl, own_ge (unhide n4'), unhide n4', unhide HB11⟩

theorem ichanges_any (a b : Option Addr) (ca cb : Nat) (l m : List Kl) (w : World) (hl0 : l.length ≤ maxLen) (hm0 : m.length ≤ maxLen) (hk : Kls w a l) (hkm : Kls w b m) :
    Calls Tryz.prog 79 #[.slice a l.length ca, .slice b m.length cb] w fun e w' => ListR w w' (changesOf l m) e := by
  by_cases h : TOk l ∧ TOk m
  · exact ichanges_yes a b ca cb l m w h.1 h.2 hk hkm
  · exact ichanges_no a b ca cb l m w hl0 hm0 hk hkm h

end Go.Proofs.YtioaehjppiodfaaGreatDoor
