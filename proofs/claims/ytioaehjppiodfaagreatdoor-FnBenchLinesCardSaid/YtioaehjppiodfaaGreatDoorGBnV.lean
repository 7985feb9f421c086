/-
  The deeds that edit: their contracts, whatever the edit is.
-/
import Derived.Test.YtioaehjppiodfaaGreatDoorGBnR
import Derived.Test.YtioaehjppiodfaaGreatDoorGBnM
namespace Go.Proofs.YtioaehjppiodfaaGreatDoor
open Go.RowKit
set_option linter.unusedVariables false
set_option linter.unusedSimpArgs false

set_option maxRecDepth 100000 in
set_option maxHeartbeats 1600000 in
theorem numE_any (F N bB p : Nat) (s : Bch) (a : Option Addr) (cp : Nat) (x0 x1 : Int) (r : Option (List Kl)) (w : World) (hI : Ins w a [x0, x1]) (hp : Boxed w p 72 (.func (.func F) #[] #[])) (hB : BS N w bB s) (hn : s.2.length ≤ 300) (ht : ∀ t, r = some t → TOk t)
    (hcf : ∀ (args : Array Value) (w : World), (callFunc F args).run Tryz.prog w = .ok (.enter F args) w)
    (hF : ∀ (ta : Option Addr) (tc : Nat) (w0 : World), AdOk ta tc s.1 → Kls w0 ta s.1 → Calls Tryz.prog F #[.slice ta s.1.length tc, .int .i64 x0, .int .i64 x1] w0 fun e w' => EdR w0 w' r e) :
    Calls Tryz.prog 74 #[.pointer (some ⟨bB, 0, none⟩), .slice a 2 cp, .pointer (some ⟨p, 0, none⟩)] w (DeedR N bB (doE r s) w) := by
  obtain ⟨tv, vi, vs, hb, ⟨ta, tc, rfl, hA, hk, hT⟩, ho, hs⟩ := hB.ex
  obtain ⟨c0, c1, f0, f1⟩ := blk2c hb
  obtain ⟨b, o, rfl, hbl, d0⟩ := hI 0 x0 rfl
  obtain ⟨b1, o1, e1, _, d1⟩ := hI 1 x1 rfl
  cases e1
  have hB' := hide (hB.below ((Below.refl _ _).drew))
  have hC := hide (hF ta tc w.drew hA (hk.below ((Below.refl _ _).drew)))
  have kD := hide (show Kb N bB w w.drew from Kb.of_below ((Below.refl _ _).drew) hB.nw)
  have cp0 := hp.cell
  have SD : Hid (w.drew.cell? ⟨p, 0, none⟩ = some (.func (.func F) #[] #[]) ∧ w.drew.cell? ⟨bB, 0, none⟩ = some (.slice ta s.1.length tc) ∧ w.drew.cell? ⟨b, o, none⟩ = some (.int .i64 x0) ∧ w.drew.cell? ⟨b, o + 1, none⟩ = some (.int .i64 x1)) := hide ⟨cp0, c0, d0, d1⟩
  have ht' := hide ht
  clear hB hb ho hs hA hk hT c0 c1 f0 f1 hI hp cp0 hF ht d0 d1
  go_enter Tryz.func74, Tryz.ntmps74
  go_upto_region 1 with fail
  refine wp_region_noPanic ?_
  refine Rg.wp_region_m (S := (fun w' => w'.cell? ⟨p, 0, none⟩ = some (.func (.func F) #[] #[]) ∧ w'.cell? ⟨bB, 0, none⟩ = some (.slice ta s.1.length tc) ∧ w'.cell? ⟨b, o, none⟩ = some (.int .i64 x0) ∧ w'.cell? ⟨b, o + 1, none⟩ = some (.int .i64 x1))) [15, 16] (by kernel_rfl) ?_ (fun hH0 => ?_)
  · exact unhide SD
  refine Rg.wpAnyM_take (i := 0) (oi := { dst := some 6, op := Go.Op.move (Go.Operand.tmp 0), type := 35, pos := _, after := #[], guard := none }) (v := ?_) rfl (by kernel_rfl) (by kernel_rfl) (by kernel_rfl) (by kernel_rfl) (fun _ _ _ h => h) (by kernel_rfl) (Or.inl ⟨by rfl, ?_⟩) hH0 ?_
  rotate_left
  · (intro w hSw; (try dsimp only at hSw); go_simp <;> with_reducible rfl)
  (try simp only [Act.put, List.setIfInBounds_toArray, List.set_cons_zero, List.set_cons_succ])
  refine Rg.wpAnyM_take (i := 1) (oi := { dst := some 7, op := Go.Op.load 72 (Go.Operand.tmp 2), type := 72, pos := _, after := #[], guard := none }) (v := ?_) rfl (by kernel_rfl) (by kernel_rfl) (by kernel_rfl) (by kernel_rfl) (fun _ _ _ h => h) (by kernel_rfl) (Or.inl ⟨by rfl, ?_⟩) hH0 ?_
  rotate_left
  · (intro w hSw; (try dsimp only at hSw); go_simp <;> with_reducible rfl)
  (try simp only [Act.put, List.setIfInBounds_toArray, List.set_cons_zero, List.set_cons_succ])
  refine Rg.wpAnyM_take (i := 2) (oi := { dst := some 8, op := Go.Op.move (Go.Operand.tmp 0), type := 35, pos := _, after := #[], guard := none }) (v := ?_) rfl (by kernel_rfl) (by kernel_rfl) (by kernel_rfl) (by kernel_rfl) (fun _ _ _ h => h) (by kernel_rfl) (Or.inl ⟨by rfl, ?_⟩) hH0 ?_
  rotate_left
  · (intro w hSw; (try dsimp only at hSw); go_simp <;> with_reducible rfl)
  (try simp only [Act.put, List.setIfInBounds_toArray, List.set_cons_zero, List.set_cons_succ])
  refine Rg.wpAnyM_take (i := 3) (oi := { dst := some 9, op := Go.Op.nilCheck (Go.Operand.tmp 8), type := 0, pos := _, after := #[{ on := 2, ground := Go.Ground.data }], guard := none }) (v := ?_) rfl (by kernel_rfl) (by kernel_rfl) (by kernel_rfl) (by kernel_rfl) (fun _ _ _ h => h) (by kernel_rfl) (Or.inl ⟨by rfl, ?_⟩) hH0 ?_
  rotate_left
  · (intro w hSw; (try dsimp only at hSw); go_simp <;> with_reducible rfl)
  (try simp only [Act.put, List.setIfInBounds_toArray, List.set_cons_zero, List.set_cons_succ])
  refine Rg.wpAnyM_take (i := 4) (oi := { dst := some 10, op := Go.Op.fieldAddr 41 (Go.Operand.tmp 9) 0, type := 0, pos := _, after := #[{ on := 3, ground := Go.Ground.data }], guard := none }) (v := ?_) rfl (by kernel_rfl) (by kernel_rfl) (by kernel_rfl) (by kernel_rfl) (fun _ _ _ h => h) (by kernel_rfl) (Or.inl ⟨by rfl, ?_⟩) hH0 ?_
  rotate_left
  · (intro w hSw; (try dsimp only at hSw); go_simp <;> with_reducible rfl)
  (try simp only [Act.put, List.setIfInBounds_toArray, List.set_cons_zero, List.set_cons_succ])
  refine Rg.wpAnyM_take (i := 5) (oi := { dst := some 11, op := Go.Op.load 36 (Go.Operand.tmp 10), type := 36, pos := _, after := #[{ on := 4, ground := Go.Ground.data }], guard := none }) (v := ?_) rfl (by kernel_rfl) (by kernel_rfl) (by kernel_rfl) (by kernel_rfl) (fun _ _ _ h => h) (by kernel_rfl) (Or.inl ⟨by rfl, ?_⟩) hH0 ?_
  rotate_left
  · (intro w hSw; (try dsimp only at hSw); go_simp <;> with_reducible rfl)
  (try simp only [Act.put, List.setIfInBounds_toArray, List.set_cons_zero, List.set_cons_succ])
  refine Rg.wpAnyM_take (i := 6) (oi := { dst := some 12, op := Go.Op.move (Go.Operand.tmp 1), type := 76, pos := _, after := #[], guard := none }) (v := ?_) rfl (by kernel_rfl) (by kernel_rfl) (by kernel_rfl) (by kernel_rfl) (fun _ _ _ h => h) (by kernel_rfl) (Or.inl ⟨by rfl, ?_⟩) hH0 ?_
  rotate_left
  · (intro w hSw; (try dsimp only at hSw); go_simp <;> with_reducible rfl)
  (try simp only [Act.put, List.setIfInBounds_toArray, List.set_cons_zero, List.set_cons_succ])
  refine Rg.wpAnyM_take (i := 7) (oi := { dst := some 13, op := Go.Op.indexAddr 76 (Go.Operand.tmp 12) (Go.Operand.const (Go.Value.int Go.IntKind.i64 0)), type := 0, pos := _, after := #[{ on := 6, ground := Go.Ground.data }], guard := none }) (v := ?_) rfl (by kernel_rfl) (by kernel_rfl) (by kernel_rfl) (by kernel_rfl) (fun _ _ _ h => h) (by kernel_rfl) (Or.inl ⟨by rfl, ?_⟩) hH0 ?_
  rotate_left
  · (intro w hSw; (try dsimp only at hSw); go_simp <;> with_reducible rfl)
  (try simp only [Act.put, List.setIfInBounds_toArray, List.set_cons_zero, List.set_cons_succ])
  refine Rg.wpAnyM_take (i := 8) (oi := { dst := some 14, op := Go.Op.load 2 (Go.Operand.tmp 13), type := 2, pos := _, after := #[{ on := 7, ground := Go.Ground.data }], guard := none }) (v := ?_) rfl (by kernel_rfl) (by kernel_rfl) (by kernel_rfl) (by kernel_rfl) (fun _ _ _ h => h) (by kernel_rfl) (Or.inl ⟨by rfl, ?_⟩) hH0 ?_
  rotate_left
  · (intro w hSw; (try dsimp only at hSw); go_simp <;> with_reducible rfl)
  (try simp only [Act.put, List.setIfInBounds_toArray, List.set_cons_zero, List.set_cons_succ])
  refine Rg.wpAnyM_take (i := 9) (oi := { dst := some 15, op := Go.Op.move (Go.Operand.tmp 1), type := 76, pos := _, after := #[], guard := none }) (v := ?_) rfl (by kernel_rfl) (by kernel_rfl) (by kernel_rfl) (by kernel_rfl) (fun _ _ _ h => h) (by kernel_rfl) (Or.inl ⟨by rfl, ?_⟩) hH0 ?_
  rotate_left
  · (intro w hSw; (try dsimp only at hSw); go_simp <;> with_reducible rfl)
  (try simp only [Act.put, List.setIfInBounds_toArray, List.set_cons_zero, List.set_cons_succ])
  refine Rg.wpAnyM_take (i := 10) (oi := { dst := some 16, op := Go.Op.indexAddr 76 (Go.Operand.tmp 15) (Go.Operand.const (Go.Value.int Go.IntKind.i64 1)), type := 0, pos := _, after := #[{ on := 9, ground := Go.Ground.data }], guard := none }) (v := ?_) rfl (by kernel_rfl) (by kernel_rfl) (by kernel_rfl) (by kernel_rfl) (fun _ _ _ h => h) (by kernel_rfl) (Or.inl ⟨by rfl, ?_⟩) hH0 ?_
  rotate_left
  · (intro w hSw; (try dsimp only at hSw); go_simp <;> with_reducible rfl)
  (try simp only [Act.put, List.setIfInBounds_toArray, List.set_cons_zero, List.set_cons_succ])
  refine Rg.wpAnyM_take (i := 11) (oi := { dst := some 17, op := Go.Op.load 2 (Go.Operand.tmp 16), type := 2, pos := _, after := #[{ on := 10, ground := Go.Ground.data }], guard := none }) (v := ?_) rfl (by kernel_rfl) (by kernel_rfl) (by kernel_rfl) (by kernel_rfl) (fun _ _ _ h => h) (by kernel_rfl) (Or.inl ⟨by rfl, ?_⟩) hH0 ?_
  rotate_left
  · (intro w hSw; (try dsimp only at hSw); go_simp <;> with_reducible rfl)
  (try simp only [Act.put, List.setIfInBounds_toArray, List.set_cons_zero, List.set_cons_succ])
  refine Rg.wpAnyM_ready (rs := [12]) (by kernel_rfl) (by simp) ?_
  refine Rg.AllReadyM.cons (o := { dst := some 18, op := Go.Op.call { callee := Go.Callee.value (Go.Operand.tmp 7), args := #[Go.Operand.tmp 11, Go.Operand.tmp 14, Go.Operand.tmp 17], argTypes := #[36, 2, 2] }, type := 92, pos := _, after := #[{ on := 1, ground := Go.Ground.data }, { on := 5, ground := Go.Ground.data }, { on := 8, ground := Go.Ground.data }, { on := 11, ground := Go.Ground.data }], guard := none }) rfl (fun K hK => ?_) Rg.AllReadyM.nil
  go_simp
  refine (unhide hC).mono ?_
  rintro e w1 ⟨g, c, rfl, hg, own, b1⟩
  have hE := hide (edited_any N bB s g c r w1 ((unhide hB').below b1) hn (unhide ht') (KT.own own))
  have kE := hide ((unhide kD).trans (Kb.of_below (bB := bB) b1 (unhide hB').nw))
  have S1 := hide (show w1.cell? ⟨p, 0, none⟩ = some (.func (.func F) #[] #[]) ∧ w1.cell? ⟨bB, 0, none⟩ = some (.slice ta s.1.length tc) ∧ w1.cell? ⟨b, o, none⟩ = some (.int .i64 x0) ∧ w1.cell? ⟨b, o + 1, none⟩ = some (.int .i64 x1) from ⟨cell_later b1 (unhide SD).1, cell_later b1 (unhide SD).2.1, cell_later b1 (unhide SD).2.2.1, cell_later b1 (unhide SD).2.2.2⟩)
  clear b1 own hg hC kD SD hB'
  go_wp2_with fail
  refine hK.out _ _ ?_ (fun hH1 => ?_)
  · exact unhide S1
  clear hK K
  (try simp only [Act.put, List.setIfInBounds_toArray, List.set_cons_zero, List.set_cons_succ])
  refine Rg.wpAnyM_take (i := 13) (oi := { dst := some 19, op := Go.Op.extract (Go.Operand.tmp 18) 0, type := 36, pos := _, after := #[{ on := 12, ground := Go.Ground.data }], guard := none }) (v := ?_) rfl (by kernel_rfl) (by kernel_rfl) (by kernel_rfl) (by kernel_rfl) (fun _ _ _ h => h) (by kernel_rfl) (Or.inl ⟨by rfl, ?_⟩) hH1 ?_
  rotate_left
  · (intro w hSw; (try dsimp only at hSw); go_simp <;> with_reducible rfl)
  (try simp only [Act.put, List.setIfInBounds_toArray, List.set_cons_zero, List.set_cons_succ])
  refine Rg.wpAnyM_take (i := 14) (oi := { dst := some 20, op := Go.Op.extract (Go.Operand.tmp 18) 1, type := 4, pos := _, after := #[{ on := 12, ground := Go.Ground.data }], guard := none }) (v := ?_) rfl (by kernel_rfl) (by kernel_rfl) (by kernel_rfl) (by kernel_rfl) (fun _ _ _ h => h) (by kernel_rfl) (Or.inl ⟨by rfl, ?_⟩) hH1 ?_
  rotate_left
  · (intro w hSw; (try dsimp only at hSw); go_simp <;> with_reducible rfl)
  (try simp only [Act.put, List.setIfInBounds_toArray, List.set_cons_zero, List.set_cons_succ])
  refine Rg.wpAnyM_ready (rs := [15]) (by kernel_rfl) (by simp) ?_
  refine Rg.AllReadyM.late (o := { dst := some 21, op := Go.Op.call { callee := Go.Callee.value (Go.Operand.func 72), args := #[Go.Operand.tmp 6, Go.Operand.tmp 19, Go.Operand.tmp 20], argTypes := #[35, 36, 4] }, type := 20, pos := _, after := #[{ on := 0, ground := Go.Ground.data }, { on := 13, ground := Go.Ground.data }, { on := 14, ground := Go.Ground.data }, { on := 12, ground := Go.Ground.chain }], guard := none }) rfl (by kernel_rfl) (fun K hK => ?_)
  go_simp
  go_at_call 72
  refine (unhide hE).mono ?_
  rintro e w2 ⟨v, rfl, hv, hBS, hKb⟩
  have hfin := hide (show DeedR N bB (doE r s) w (.returned v) w2 from ⟨v, rfl, hv, hBS, (unhide kE).trans hKb⟩)
  clear hv hBS hKb hE kE
  go_wp2_with fail
  refine hK.out _ _ ?_
  clear hK K
  (try simp only [Act.put, List.setIfInBounds_toArray, List.set_cons_zero, List.set_cons_succ])
  refine Rg.wpAnyM_ready (rs := [16]) (by kernel_rfl) (by simp) ?_
  refine Rg.AllReadyM.late (o := { dst := some 5, op := Go.Op.assign (Go.Operand.tmp 21), type := 20, pos := _, after := #[{ on := 15, ground := Go.Ground.data }, { on := 15, ground := Go.Ground.chain }, { on := 0, ground := Go.Ground.phase }, { on := 1, ground := Go.Ground.phase }, { on := 2, ground := Go.Ground.phase }, { on := 3, ground := Go.Ground.phase }, { on := 4, ground := Go.Ground.phase }, { on := 5, ground := Go.Ground.phase }, { on := 6, ground := Go.Ground.phase }, { on := 7, ground := Go.Ground.phase }, { on := 8, ground := Go.Ground.phase }, { on := 9, ground := Go.Ground.phase }, { on := 10, ground := Go.Ground.phase }, { on := 11, ground := Go.Ground.phase }, { on := 12, ground := Go.Ground.phase }, { on := 13, ground := Go.Ground.phase }, { on := 14, ground := Go.Ground.phase }, { on := 15, ground := Go.Ground.phase }], guard := none }) rfl (by kernel_rfl) (fun K hK => ?_)
  go_simp
  refine hK.out _ _ ?_
  clear hK K
  (try simp only [Act.put, List.setIfInBounds_toArray, List.set_cons_zero, List.set_cons_succ])
  refine Rg.wpAnyM_done (by kernel_rfl) ?_ _
  refine NoPanic.normal ?_
  go_wp2
  go_ret
  exact unhide hfin

set_option maxRecDepth 100000 in
set_option maxHeartbeats 1600000 in
theorem clipE_any (F N bB p : Nat) (s : Bch) (a : Option Addr) (cp : Nat) (x0 x1 x2 x3 : Int) (r : Option (List Kl)) (w : World) (hI : Ins w a [x0, x1, x2, x3]) (hp : Boxed w p 70 (.func (.func F) #[] #[])) (hB : BS N w bB s) (hn : s.2.length ≤ 300) (ht : ∀ t, r = some t → TOk t)
    (hcf : ∀ (args : Array Value) (w : World), (callFunc F args).run Tryz.prog w = .ok (.enter F args) w)
    (hF : ∀ (ta : Option Addr) (tc : Nat) (w0 : World), AdOk ta tc s.1 → Kls w0 ta s.1 → Calls Tryz.prog F #[.slice ta s.1.length tc, .int .i64 x0, .agg #[.int .i64 x1, .int .i64 x2, .int .i64 x3]] w0 fun e w' => EdR w0 w' r e) :
    Calls Tryz.prog 71 #[.pointer (some ⟨bB, 0, none⟩), .slice a 4 cp, .pointer (some ⟨p, 0, none⟩)] w (DeedR N bB (doE r s) w) := by
  obtain ⟨tv, vi, vs, hb, ⟨ta, tc, rfl, hA, hk, hT⟩, ho, hs⟩ := hB.ex
  obtain ⟨c0, c1, f0, f1⟩ := blk2c hb
  obtain ⟨b, o, rfl, hbl, d0⟩ := hI 0 x0 rfl
  obtain ⟨b1, o1, e1, _, d1⟩ := hI 1 x1 rfl
  cases e1
  obtain ⟨b2, o2, e2, _, d2⟩ := hI 2 x2 rfl
  cases e2
  obtain ⟨b3, o3, e3, _, d3⟩ := hI 3 x3 rfl
  cases e3
  have hB' := hide (hB.below ((Below.refl _ _).drew))
  have hC := hide (hF ta tc w.drew hA (hk.below ((Below.refl _ _).drew)))
  have kD := hide (show Kb N bB w w.drew from Kb.of_below ((Below.refl _ _).drew) hB.nw)
  have cp0 := hp.cell
  have SD : Hid (w.drew.cell? ⟨p, 0, none⟩ = some (.func (.func F) #[] #[]) ∧ w.drew.cell? ⟨bB, 0, none⟩ = some (.slice ta s.1.length tc) ∧ w.drew.cell? ⟨b, o, none⟩ = some (.int .i64 x0) ∧ w.drew.cell? ⟨b, o + 1, none⟩ = some (.int .i64 x1) ∧ w.drew.cell? ⟨b, o + 2, none⟩ = some (.int .i64 x2) ∧ w.drew.cell? ⟨b, o + 3, none⟩ = some (.int .i64 x3)) := hide ⟨cp0, c0, d0, d1, d2, d3⟩
  have ht' := hide ht
  clear hB hb ho hs hA hk hT c0 c1 f0 f1 hI hp cp0 hF ht d0 d1 d2 d3
  go_enter Tryz.func71, Tryz.ntmps71
  go_upto_region 1 with fail
  refine wp_region_noPanic ?_
  refine Rg.wp_region_m (S := (fun w' => w'.cell? ⟨p, 0, none⟩ = some (.func (.func F) #[] #[]) ∧ w'.cell? ⟨bB, 0, none⟩ = some (.slice ta s.1.length tc) ∧ w'.cell? ⟨b, o, none⟩ = some (.int .i64 x0) ∧ w'.cell? ⟨b, o + 1, none⟩ = some (.int .i64 x1) ∧ w'.cell? ⟨b, o + 2, none⟩ = some (.int .i64 x2) ∧ w'.cell? ⟨b, o + 3, none⟩ = some (.int .i64 x3))) [22, 23] (by kernel_rfl) ?_ (fun hH0 => ?_)
  · exact unhide SD
  refine Rg.wpAnyM_take (i := 0) (oi := { dst := some 6, op := Go.Op.move (Go.Operand.tmp 0), type := 35, pos := _, after := #[], guard := none }) (v := ?_) rfl (by kernel_rfl) (by kernel_rfl) (by kernel_rfl) (by kernel_rfl) (fun _ _ _ h => h) (by kernel_rfl) (Or.inl ⟨by rfl, ?_⟩) hH0 ?_
  rotate_left
  · (intro w hSw; (try dsimp only at hSw); go_simp <;> with_reducible rfl)
  (try simp only [Act.put, List.setIfInBounds_toArray, List.set_cons_zero, List.set_cons_succ])
  refine Rg.wpAnyM_take (i := 1) (oi := { dst := some 7, op := Go.Op.load 70 (Go.Operand.tmp 2), type := 70, pos := _, after := #[], guard := none }) (v := ?_) rfl (by kernel_rfl) (by kernel_rfl) (by kernel_rfl) (by kernel_rfl) (fun _ _ _ h => h) (by kernel_rfl) (Or.inl ⟨by rfl, ?_⟩) hH0 ?_
  rotate_left
  · (intro w hSw; (try dsimp only at hSw); go_simp <;> with_reducible rfl)
  (try simp only [Act.put, List.setIfInBounds_toArray, List.set_cons_zero, List.set_cons_succ])
  refine Rg.wpAnyM_take (i := 2) (oi := { dst := some 8, op := Go.Op.move (Go.Operand.tmp 0), type := 35, pos := _, after := #[], guard := none }) (v := ?_) rfl (by kernel_rfl) (by kernel_rfl) (by kernel_rfl) (by kernel_rfl) (fun _ _ _ h => h) (by kernel_rfl) (Or.inl ⟨by rfl, ?_⟩) hH0 ?_
  rotate_left
  · (intro w hSw; (try dsimp only at hSw); go_simp <;> with_reducible rfl)
  (try simp only [Act.put, List.setIfInBounds_toArray, List.set_cons_zero, List.set_cons_succ])
  refine Rg.wpAnyM_take (i := 3) (oi := { dst := some 9, op := Go.Op.nilCheck (Go.Operand.tmp 8), type := 0, pos := _, after := #[{ on := 2, ground := Go.Ground.data }], guard := none }) (v := ?_) rfl (by kernel_rfl) (by kernel_rfl) (by kernel_rfl) (by kernel_rfl) (fun _ _ _ h => h) (by kernel_rfl) (Or.inl ⟨by rfl, ?_⟩) hH0 ?_
  rotate_left
  · (intro w hSw; (try dsimp only at hSw); go_simp <;> with_reducible rfl)
  (try simp only [Act.put, List.setIfInBounds_toArray, List.set_cons_zero, List.set_cons_succ])
  refine Rg.wpAnyM_take (i := 4) (oi := { dst := some 10, op := Go.Op.fieldAddr 41 (Go.Operand.tmp 9) 0, type := 0, pos := _, after := #[{ on := 3, ground := Go.Ground.data }], guard := none }) (v := ?_) rfl (by kernel_rfl) (by kernel_rfl) (by kernel_rfl) (by kernel_rfl) (fun _ _ _ h => h) (by kernel_rfl) (Or.inl ⟨by rfl, ?_⟩) hH0 ?_
  rotate_left
  · (intro w hSw; (try dsimp only at hSw); go_simp <;> with_reducible rfl)
  (try simp only [Act.put, List.setIfInBounds_toArray, List.set_cons_zero, List.set_cons_succ])
  refine Rg.wpAnyM_take (i := 5) (oi := { dst := some 11, op := Go.Op.load 36 (Go.Operand.tmp 10), type := 36, pos := _, after := #[{ on := 4, ground := Go.Ground.data }], guard := none }) (v := ?_) rfl (by kernel_rfl) (by kernel_rfl) (by kernel_rfl) (by kernel_rfl) (fun _ _ _ h => h) (by kernel_rfl) (Or.inl ⟨by rfl, ?_⟩) hH0 ?_
  rotate_left
  · (intro w hSw; (try dsimp only at hSw); go_simp <;> with_reducible rfl)
  (try simp only [Act.put, List.setIfInBounds_toArray, List.set_cons_zero, List.set_cons_succ])
  refine Rg.wpAnyM_take (i := 6) (oi := { dst := some 12, op := Go.Op.move (Go.Operand.tmp 1), type := 76, pos := _, after := #[], guard := none }) (v := ?_) rfl (by kernel_rfl) (by kernel_rfl) (by kernel_rfl) (by kernel_rfl) (fun _ _ _ h => h) (by kernel_rfl) (Or.inl ⟨by rfl, ?_⟩) hH0 ?_
  rotate_left
  · (intro w hSw; (try dsimp only at hSw); go_simp <;> with_reducible rfl)
  (try simp only [Act.put, List.setIfInBounds_toArray, List.set_cons_zero, List.set_cons_succ])
  refine Rg.wpAnyM_take (i := 7) (oi := { dst := some 13, op := Go.Op.indexAddr 76 (Go.Operand.tmp 12) (Go.Operand.const (Go.Value.int Go.IntKind.i64 0)), type := 0, pos := _, after := #[{ on := 6, ground := Go.Ground.data }], guard := none }) (v := ?_) rfl (by kernel_rfl) (by kernel_rfl) (by kernel_rfl) (by kernel_rfl) (fun _ _ _ h => h) (by kernel_rfl) (Or.inl ⟨by rfl, ?_⟩) hH0 ?_
  rotate_left
  · (intro w hSw; (try dsimp only at hSw); go_simp <;> with_reducible rfl)
  (try simp only [Act.put, List.setIfInBounds_toArray, List.set_cons_zero, List.set_cons_succ])
  refine Rg.wpAnyM_take (i := 8) (oi := { dst := some 14, op := Go.Op.load 2 (Go.Operand.tmp 13), type := 2, pos := _, after := #[{ on := 7, ground := Go.Ground.data }], guard := none }) (v := ?_) rfl (by kernel_rfl) (by kernel_rfl) (by kernel_rfl) (by kernel_rfl) (fun _ _ _ h => h) (by kernel_rfl) (Or.inl ⟨by rfl, ?_⟩) hH0 ?_
  rotate_left
  · (intro w hSw; (try dsimp only at hSw); go_simp <;> with_reducible rfl)
  (try simp only [Act.put, List.setIfInBounds_toArray, List.set_cons_zero, List.set_cons_succ])
  refine Rg.wpAnyM_take (i := 9) (oi := { dst := some 15, op := Go.Op.move (Go.Operand.tmp 1), type := 76, pos := _, after := #[], guard := none }) (v := ?_) rfl (by kernel_rfl) (by kernel_rfl) (by kernel_rfl) (by kernel_rfl) (fun _ _ _ h => h) (by kernel_rfl) (Or.inl ⟨by rfl, ?_⟩) hH0 ?_
  rotate_left
  · (intro w hSw; (try dsimp only at hSw); go_simp <;> with_reducible rfl)
  (try simp only [Act.put, List.setIfInBounds_toArray, List.set_cons_zero, List.set_cons_succ])
  refine Rg.wpAnyM_take (i := 10) (oi := { dst := some 16, op := Go.Op.indexAddr 76 (Go.Operand.tmp 15) (Go.Operand.const (Go.Value.int Go.IntKind.i64 1)), type := 0, pos := _, after := #[{ on := 9, ground := Go.Ground.data }], guard := none }) (v := ?_) rfl (by kernel_rfl) (by kernel_rfl) (by kernel_rfl) (by kernel_rfl) (fun _ _ _ h => h) (by kernel_rfl) (Or.inl ⟨by rfl, ?_⟩) hH0 ?_
  rotate_left
  · (intro w hSw; (try dsimp only at hSw); go_simp <;> with_reducible rfl)
  (try simp only [Act.put, List.setIfInBounds_toArray, List.set_cons_zero, List.set_cons_succ])
  refine Rg.wpAnyM_take (i := 11) (oi := { dst := some 17, op := Go.Op.load 2 (Go.Operand.tmp 16), type := 2, pos := _, after := #[{ on := 10, ground := Go.Ground.data }], guard := none }) (v := ?_) rfl (by kernel_rfl) (by kernel_rfl) (by kernel_rfl) (by kernel_rfl) (fun _ _ _ h => h) (by kernel_rfl) (Or.inl ⟨by rfl, ?_⟩) hH0 ?_
  rotate_left
  · (intro w hSw; (try dsimp only at hSw); go_simp <;> with_reducible rfl)
  (try simp only [Act.put, List.setIfInBounds_toArray, List.set_cons_zero, List.set_cons_succ])
  refine Rg.wpAnyM_take (i := 12) (oi := { dst := some 18, op := Go.Op.move (Go.Operand.tmp 1), type := 76, pos := _, after := #[], guard := none }) (v := ?_) rfl (by kernel_rfl) (by kernel_rfl) (by kernel_rfl) (by kernel_rfl) (fun _ _ _ h => h) (by kernel_rfl) (Or.inl ⟨by rfl, ?_⟩) hH0 ?_
  rotate_left
  · (intro w hSw; (try dsimp only at hSw); go_simp <;> with_reducible rfl)
  (try simp only [Act.put, List.setIfInBounds_toArray, List.set_cons_zero, List.set_cons_succ])
  refine Rg.wpAnyM_take (i := 13) (oi := { dst := some 19, op := Go.Op.indexAddr 76 (Go.Operand.tmp 18) (Go.Operand.const (Go.Value.int Go.IntKind.i64 2)), type := 0, pos := _, after := #[{ on := 12, ground := Go.Ground.data }], guard := none }) (v := ?_) rfl (by kernel_rfl) (by kernel_rfl) (by kernel_rfl) (by kernel_rfl) (fun _ _ _ h => h) (by kernel_rfl) (Or.inl ⟨by rfl, ?_⟩) hH0 ?_
  rotate_left
  · (intro w hSw; (try dsimp only at hSw); go_simp <;> with_reducible rfl)
  (try simp only [Act.put, List.setIfInBounds_toArray, List.set_cons_zero, List.set_cons_succ])
  refine Rg.wpAnyM_take (i := 14) (oi := { dst := some 20, op := Go.Op.load 2 (Go.Operand.tmp 19), type := 2, pos := _, after := #[{ on := 13, ground := Go.Ground.data }], guard := none }) (v := ?_) rfl (by kernel_rfl) (by kernel_rfl) (by kernel_rfl) (by kernel_rfl) (fun _ _ _ h => h) (by kernel_rfl) (Or.inl ⟨by rfl, ?_⟩) hH0 ?_
  rotate_left
  · (intro w hSw; (try dsimp only at hSw); go_simp <;> with_reducible rfl)
  (try simp only [Act.put, List.setIfInBounds_toArray, List.set_cons_zero, List.set_cons_succ])
  refine Rg.wpAnyM_take (i := 15) (oi := { dst := some 21, op := Go.Op.move (Go.Operand.tmp 1), type := 76, pos := _, after := #[], guard := none }) (v := ?_) rfl (by kernel_rfl) (by kernel_rfl) (by kernel_rfl) (by kernel_rfl) (fun _ _ _ h => h) (by kernel_rfl) (Or.inl ⟨by rfl, ?_⟩) hH0 ?_
  rotate_left
  · (intro w hSw; (try dsimp only at hSw); go_simp <;> with_reducible rfl)
  (try simp only [Act.put, List.setIfInBounds_toArray, List.set_cons_zero, List.set_cons_succ])
  refine Rg.wpAnyM_take (i := 16) (oi := { dst := some 22, op := Go.Op.indexAddr 76 (Go.Operand.tmp 21) (Go.Operand.const (Go.Value.int Go.IntKind.i64 3)), type := 0, pos := _, after := #[{ on := 15, ground := Go.Ground.data }], guard := none }) (v := ?_) rfl (by kernel_rfl) (by kernel_rfl) (by kernel_rfl) (by kernel_rfl) (fun _ _ _ h => h) (by kernel_rfl) (Or.inl ⟨by rfl, ?_⟩) hH0 ?_
  rotate_left
  · (intro w hSw; (try dsimp only at hSw); go_simp <;> with_reducible rfl)
  (try simp only [Act.put, List.setIfInBounds_toArray, List.set_cons_zero, List.set_cons_succ])
  refine Rg.wpAnyM_take (i := 17) (oi := { dst := some 23, op := Go.Op.load 2 (Go.Operand.tmp 22), type := 2, pos := _, after := #[{ on := 16, ground := Go.Ground.data }], guard := none }) (v := ?_) rfl (by kernel_rfl) (by kernel_rfl) (by kernel_rfl) (by kernel_rfl) (fun _ _ _ h => h) (by kernel_rfl) (Or.inl ⟨by rfl, ?_⟩) hH0 ?_
  rotate_left
  · (intro w hSw; (try dsimp only at hSw); go_simp <;> with_reducible rfl)
  (try simp only [Act.put, List.setIfInBounds_toArray, List.set_cons_zero, List.set_cons_succ])
  refine Rg.wpAnyM_take (i := 18) (oi := { dst := some 24, op := Go.Op.build 94 #[(0, Go.Operand.tmp 17), (1, Go.Operand.tmp 20), (2, Go.Operand.tmp 23)], type := 94, pos := _, after := #[{ on := 11, ground := Go.Ground.data }, { on := 14, ground := Go.Ground.data }, { on := 17, ground := Go.Ground.data }], guard := none }) (v := ?_) rfl (by kernel_rfl) (by kernel_rfl) (by kernel_rfl) (by kernel_rfl) (fun _ _ _ h => h) (by kernel_rfl) (Or.inl ⟨by rfl, ?_⟩) hH0 ?_
  rotate_left
  · (intro w hSw; (try dsimp only at hSw); go_simp <;> with_reducible rfl)
  (try simp only [Act.put, List.setIfInBounds_toArray, List.set_cons_zero, List.set_cons_succ])
  refine Rg.wpAnyM_ready (rs := [19]) (by kernel_rfl) (by simp) ?_
  refine Rg.AllReadyM.cons (o := { dst := some 25, op := Go.Op.call { callee := Go.Callee.value (Go.Operand.tmp 7), args := #[Go.Operand.tmp 11, Go.Operand.tmp 14, Go.Operand.tmp 24], argTypes := #[36, 2, 94] }, type := 92, pos := _, after := #[{ on := 1, ground := Go.Ground.data }, { on := 5, ground := Go.Ground.data }, { on := 8, ground := Go.Ground.data }, { on := 18, ground := Go.Ground.data }], guard := none }) rfl (fun K hK => ?_) Rg.AllReadyM.nil
  go_simp
  refine (unhide hC).mono ?_
  rintro e w1 ⟨g, c, rfl, hg, own, b1⟩
  have hE := hide (edited_any N bB s g c r w1 ((unhide hB').below b1) hn (unhide ht') (KT.own own))
  have kE := hide ((unhide kD).trans (Kb.of_below (bB := bB) b1 (unhide hB').nw))
  have S1 := hide (show w1.cell? ⟨p, 0, none⟩ = some (.func (.func F) #[] #[]) ∧ w1.cell? ⟨bB, 0, none⟩ = some (.slice ta s.1.length tc) ∧ w1.cell? ⟨b, o, none⟩ = some (.int .i64 x0) ∧ w1.cell? ⟨b, o + 1, none⟩ = some (.int .i64 x1) ∧ w1.cell? ⟨b, o + 2, none⟩ = some (.int .i64 x2) ∧ w1.cell? ⟨b, o + 3, none⟩ = some (.int .i64 x3) from ⟨cell_later b1 (unhide SD).1, cell_later b1 (unhide SD).2.1, cell_later b1 (unhide SD).2.2.1, cell_later b1 (unhide SD).2.2.2.1, cell_later b1 (unhide SD).2.2.2.2.1, cell_later b1 (unhide SD).2.2.2.2.2⟩)
  clear b1 own hg hC kD SD hB'
  go_wp2_with fail
  refine hK.out _ _ ?_ (fun hH1 => ?_)
  · exact unhide S1
  clear hK K
  (try simp only [Act.put, List.setIfInBounds_toArray, List.set_cons_zero, List.set_cons_succ])
  refine Rg.wpAnyM_take (i := 20) (oi := { dst := some 26, op := Go.Op.extract (Go.Operand.tmp 25) 0, type := 36, pos := _, after := #[{ on := 19, ground := Go.Ground.data }], guard := none }) (v := ?_) rfl (by kernel_rfl) (by kernel_rfl) (by kernel_rfl) (by kernel_rfl) (fun _ _ _ h => h) (by kernel_rfl) (Or.inl ⟨by rfl, ?_⟩) hH1 ?_
  rotate_left
  · (intro w hSw; (try dsimp only at hSw); go_simp <;> with_reducible rfl)
  (try simp only [Act.put, List.setIfInBounds_toArray, List.set_cons_zero, List.set_cons_succ])
  refine Rg.wpAnyM_take (i := 21) (oi := { dst := some 27, op := Go.Op.extract (Go.Operand.tmp 25) 1, type := 4, pos := _, after := #[{ on := 19, ground := Go.Ground.data }], guard := none }) (v := ?_) rfl (by kernel_rfl) (by kernel_rfl) (by kernel_rfl) (by kernel_rfl) (fun _ _ _ h => h) (by kernel_rfl) (Or.inl ⟨by rfl, ?_⟩) hH1 ?_
  rotate_left
  · (intro w hSw; (try dsimp only at hSw); go_simp <;> with_reducible rfl)
  (try simp only [Act.put, List.setIfInBounds_toArray, List.set_cons_zero, List.set_cons_succ])
  refine Rg.wpAnyM_ready (rs := [22]) (by kernel_rfl) (by simp) ?_
  refine Rg.AllReadyM.late (o := { dst := some 28, op := Go.Op.call { callee := Go.Callee.value (Go.Operand.func 72), args := #[Go.Operand.tmp 6, Go.Operand.tmp 26, Go.Operand.tmp 27], argTypes := #[35, 36, 4] }, type := 20, pos := _, after := #[{ on := 0, ground := Go.Ground.data }, { on := 20, ground := Go.Ground.data }, { on := 21, ground := Go.Ground.data }, { on := 19, ground := Go.Ground.chain }], guard := none }) rfl (by kernel_rfl) (fun K hK => ?_)
  go_simp
  go_at_call 72
  refine (unhide hE).mono ?_
  rintro e w2 ⟨v, rfl, hv, hBS, hKb⟩
  have hfin := hide (show DeedR N bB (doE r s) w (.returned v) w2 from ⟨v, rfl, hv, hBS, (unhide kE).trans hKb⟩)
  clear hv hBS hKb hE kE
  go_wp2_with fail
  refine hK.out _ _ ?_
  clear hK K
  (try simp only [Act.put, List.setIfInBounds_toArray, List.set_cons_zero, List.set_cons_succ])
  refine Rg.wpAnyM_ready (rs := [23]) (by kernel_rfl) (by simp) ?_
  refine Rg.AllReadyM.late (o := { dst := some 5, op := Go.Op.assign (Go.Operand.tmp 28), type := 20, pos := _, after := #[{ on := 22, ground := Go.Ground.data }, { on := 22, ground := Go.Ground.chain }, { on := 0, ground := Go.Ground.phase }, { on := 1, ground := Go.Ground.phase }, { on := 2, ground := Go.Ground.phase }, { on := 3, ground := Go.Ground.phase }, { on := 4, ground := Go.Ground.phase }, { on := 5, ground := Go.Ground.phase }, { on := 6, ground := Go.Ground.phase }, { on := 7, ground := Go.Ground.phase }, { on := 8, ground := Go.Ground.phase }, { on := 9, ground := Go.Ground.phase }, { on := 10, ground := Go.Ground.phase }, { on := 11, ground := Go.Ground.phase }, { on := 12, ground := Go.Ground.phase }, { on := 13, ground := Go.Ground.phase }, { on := 14, ground := Go.Ground.phase }, { on := 15, ground := Go.Ground.phase }, { on := 16, ground := Go.Ground.phase }, { on := 17, ground := Go.Ground.phase }, { on := 18, ground := Go.Ground.phase }, { on := 19, ground := Go.Ground.phase }, { on := 20, ground := Go.Ground.phase }, { on := 21, ground := Go.Ground.phase }, { on := 22, ground := Go.Ground.phase }], guard := none }) rfl (by kernel_rfl) (fun K hK => ?_)
  go_simp
  refine hK.out _ _ ?_
  clear hK K
  (try simp only [Act.put, List.setIfInBounds_toArray, List.set_cons_zero, List.set_cons_succ])
  refine Rg.wpAnyM_done (by kernel_rfl) ?_ _
  refine NoPanic.normal ?_
  go_wp2
  go_ret
  exact unhide hfin
end Go.Proofs.YtioaehjppiodfaaGreatDoor
