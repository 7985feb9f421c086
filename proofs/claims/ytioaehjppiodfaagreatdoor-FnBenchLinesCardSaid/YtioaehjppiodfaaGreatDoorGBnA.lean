/-
  The program's texts of clips: their contract; what was there stays.
  The program's text of an answer: its contract; what was there stays.
-/
import Derived.Test.YtioaehjppiodfaaGreatDoorGBnT
namespace Go.Proofs.YtioaehjppiodfaaGreatDoor
open Go.RowKit
set_option linter.unusedVariables false
set_option linter.unusedSimpArgs false

theorem infoS : (Tryz.prog.info? 9).map (fun i => (i.zero, i.size, i.bytes)) = some (some (.string ⟨#[]⟩), 1, 16) := Ln.infoS
theorem mk_app (a b : List UInt8) : (⟨a.toArray⟩ : ByteArray) ++ ⟨b.toArray⟩ = ⟨(a ++ b).toArray⟩ := by
  apply ByteArray.ext
  rw [ByteArray.data_append]
  simp
theorem str_add {P : Program} {a b c : List UInt8} {A B C : ByteArray} (hA : (⟨a.toArray⟩ : ByteArray) = A) (hB : (⟨b.toArray⟩ : ByteArray) = B) (hC : (⟨c.toArray⟩ : ByteArray) = C) (h : a.length + b.length ≤ 1000000) (hc : c = a ++ b := by rfl) (w : World) :
    (Op.stringOp .add A B).run P w = .ok (.string C) w := by
  subst hA hB hC hc
  have h9 : (⟨a.toArray⟩ : ByteArray).size + (⟨b.toArray⟩ : ByteArray).size ≤ 9223372036854775807 := by show a.toArray.size + b.toArray.size ≤ _; simp; omega
  rw [← mk_app]
  exact run_string_add_sum (P := P) w ⟨a.toArray⟩ ⟨b.toArray⟩ h9

/-- a clip's text -/
def ctL (c : Kl) : List UInt8 := Lib.itoa c.1 ++ [58] ++ Lib.itoa c.2.1 ++ [43] ++ Lib.itoa c.2.2
def ct (c : Kl) : ByteArray := ⟨(ctL c).toArray⟩
def B64 (x : Int) : Prop := -9223372036854775808 ≤ x ∧ x ≤ 9223372036854775807
def B64K (c : Kl) : Prop := B64 c.1 ∧ B64 c.2.1 ∧ B64 c.2.2
theorem ntext64 (n : Int) (h : B64 n) (w : World) (ht : Gv w) : Calls Tryz.prog 49 #[.int .i64 n] w fun e w' => e = .returned (.string (nt n)) ∧ Below w.heap.size w w' := ntext_any n w h.1 h.2 ht
theorem keepC {X w0 w1 : World} {E B n : Nat} {c1 c2 c3 : Value} {v : Value} {xs : List Value} (h : w0.cell? ⟨E, 0, none⟩ = some c1 ∧ w0.cell? ⟨E, 1, none⟩ = some c2 ∧ w0.cell? ⟨E, 2, none⟩ = some c3 ∧ w0.ownsRow B 9 1 v n xs ∧ Gv w0 ∧ Below X.heap.size X w0) (hb : Below w0.heap.size w0 w1) :
    w1.cell? ⟨E, 0, none⟩ = some c1 ∧ w1.cell? ⟨E, 1, none⟩ = some c2 ∧ w1.cell? ⟨E, 2, none⟩ = some c3 ∧ w1.ownsRow B 9 1 v n xs ∧ Gv w1 ∧ Below X.heap.size X w1 :=
  ⟨cell_later hb h.1, cell_later hb h.2.1, cell_later hb h.2.2.1, ownsRow_below h.2.2.2.1 hb, h.2.2.2.2.1.below hb, laterB h.2.2.2.2.2 hb⟩
theorem step_oneC {ops : Array Oper} {o : Oper} {a : Act} {K : Act → World → Prop} {Q : Exit → Act → World → Prop} {E' : Prop} {X w0 : World} {E B n : Nat} {c1 c2 c3 : Value} {v : Value} {xs : List Value} {u : ByteArray}
    (h : w0.cell? ⟨E, 0, none⟩ = some c1 ∧ w0.cell? ⟨E, 1, none⟩ = some c2 ∧ w0.cell? ⟨E, 2, none⟩ = some c3 ∧ w0.ownsRow B 9 1 v n xs ∧ Gv w0 ∧ Below X.heap.size X w0)
    (hgd : o.guard = none) (s x : Operand) (ho : o.op = .call { callee := .builtin .append, args := #[s, x], argTypes := #[26, 26] }) (hs : a.eval s = v) (hx : a.eval x = .slice (some ⟨w0.heap.size, 0, none⟩) 1 1) (hl : n ≤ 1000000) (hB : B ≤ X.heap.size) (hE : v.ownBlock ≠ some E)
    (hk : ∀ g' cap' w', w'.ownsRow B 9 1 (.slice (some ⟨g', 0, none⟩) (n + 1) cap') (n + 1) (xs ++ [.string u]) → B ≤ g' → Below B X w' → (w'.cell? ⟨E, 0, none⟩ = some c1 ∧ w'.cell? ⟨E, 1, none⟩ = some c2 ∧ w'.cell? ⟨E, 2, none⟩ = some c3) → K (a.put o.dst (.slice (some ⟨g', 0, none⟩) (n + 1) cap')) w') :
    if Region.wanted o (yielded ops a.tmps) = true then Oper.wp Tryz.prog o a (w0.alloc (.cells #[.string u] 9)) K Q else E' := by
  obtain ⟨i0, hi, hz0, hzz, hz2⟩ := info_parts infoS
  obtain ⟨d0, d1, d2, hown, _, hX⟩ := h
  have hEl : E < w0.heap.size := World.block_lt_of_cell? _ _ d0
  have hb : Below w0.heap.size w0 (w0.alloc (.cells #[.string u] 9)) := (Below.refl _ _).alloc (Nat.le_refl _) _
  have hgr0 : w0.grownBy (w0.alloc (.cells #[.string u] 9)) v.ownBlock := World.grownBy_alloc w0 _ _
  have hnews := one_news (heap_alloc_new w0 (.cells #[.string u] 9))
  have hsz : (w0.alloc (.cells #[.string u] 9)).heap.size = w0.heap.size + 1 := by simp
  have hXs := hX.size
  generalize w0.alloc (.cells #[.string u] 9) = W at *
  refine step_append_lies W hgd s x 26 ho B 9 i0 (.string ⟨#[]⟩) 1 16 Tryz.underlying26 hi hz0 hzz hz2 rfl (by decide) v n xs hs (ownsRow_below hown hb) ⟨w0.heap.size, 0, none⟩ 1 1 [.string u] hx rfl hnews (by intro v hv; simp at hv; subst hv; rfl) (by decide) (by unfold maxLen; omega) (by omega) (by omega) W.heap.size rfl ?_
  intro g' cap' w' k1 k2 k3 k4
  have k5 := grown_trans hgr0 k2
  have hBg : ∀ k, v.ownBlock = some k → B ≤ k := fun k hk => (hown.lt k hk).1
  have e : w'.heap[E]? = w0.heap[E]? := k5.block E hEl (fun e => hE e.symm)
  exact hk g' cap' w' k1 (own_ge k1) ((hX.mono hB).trans ((Below.refl _ _).grown k5 (by omega) hBg)) ⟨(World.cell?_of_block (a := ⟨E, 0, none⟩) e).trans d0, (World.cell?_of_block (a := ⟨E, 1, none⟩) e).trans d1, (World.cell?_of_block (a := ⟨E, 2, none⟩) e).trans d2⟩
/-- the answer of clipTexts -/
def CtR (w : World) (l : List Kl) (e : Ending) (w' : World) : Prop := ∃ g c, e = .returned (.slice (some ⟨g, 0, none⟩) l.length c) ∧ w.heap.size ≤ g ∧ w'.ownsRow w.heap.size 9 1 (.slice (some ⟨g, 0, none⟩) l.length c) l.length (l.map fun x => Value.string (ct x)) ∧ Below w.heap.size w w'

set_option maxRecDepth 100000 in
set_option maxHeartbeats 3200000 in
theorem ctexts_any (a : Option Addr) (cap : Nat) (l : List Kl) (w : World) (hl : l.length ≤ 100000) (hb64 : ∀ x ∈ l, B64K x) (hG : Gv w) (hk : Kls w a l) :
    Calls Tryz.prog 50 #[.slice a l.length cap] w (CtR w l) := by
  have hk' := hide hk
  have hG' := hide hG
  have hz' := hide hb64
  clear hk hG hb64
  obtain ⟨i0, hi, hz0, hz1, hz2⟩ := info_parts infoS
  go_enter Tryz.func50, Tryz.ntmps50
  go_wp2_with (refine wpList_make_own _ rfl _ _ 26 rfl w.heap.size 9 i0 (.string ⟨#[]⟩) 1 Tryz.underlying26 hi hz0 hz1 .i64 .i64 _ l.length rfl rfl rfl ?b2 ?b3 (Nat.le_refl _) ?_)
  case b2 => rw [hz2]; omega
  case b3 => unfold maxLen; omega
  intro w1 own1 gr1
  have o1 := hide own1
  have b1 := hide (show Below w.heap.size w w1 from (Below.refl _ _).grown gr1 (Nat.le_refl _) (fun k hk => by cases hk))
  clear own1 gr1
  go_wp2
  go_loopw [3, 11] (fun s t wr => ∃ (k g c : Nat), k ≤ l.length ∧ t = .int .i64 k ∧ s = .slice (some ⟨g, 0, none⟩) k c ∧ w.heap.size ≤ g ∧ Hid (wr.ownsRow w.heap.size 9 1 (.slice (some ⟨g, 0, none⟩) k c) k ((l.take k).map fun x => Value.string (ct x))) ∧ Hid (Below w.heap.size w wr)) (fun _ t _ => l.length - (intOf t).toNat)
  case atStart => exact ⟨0, w.heap.size, _, by omega, rfl, rfl, Nat.le_refl _, hide (unhide o1), b1⟩
  case round =>
    clear o1 b1
    obtain ⟨k, g, c, hkl, rfl, rfl, hg, ho, hw⟩ := hrel
    by_cases hlt : k < l.length
    · have hlt' : decide ((k : Int) < l.length) = true := by rw [decide_eq_true_iff]; omega
      obtain ⟨x, hx⟩ : ∃ x, l[k]? = some x := ⟨l[k], List.getElem?_eq_getElem hlt⟩
      obtain ⟨b, o, rfl, hbl, d0, d1, d2⟩ := unhide hk' k x hx
      have C := fun q => (bcell (unhide hw)).1 b q hbl
      have C0 := (C _).trans d0
      have C1 := (C _).trans d1
      have C2 := (C _).trans d2
      obtain ⟨n1, n2, n3⟩ := unhide hz' x (List.mem_of_getElem? hx)
      have hne := hide (show (l.take k).map (fun x => Value.string (ct x)) ++ [.string (ct x)] = (l.take (k + 1)).map fun x => Value.string (ct x) from by rw [take_snocK hx, List.map_append]; rfl)
      have hct : ct x = ⟨(Lib.itoa x.1 ++ [58] ++ Lib.itoa x.2.1 ++ [43] ++ Lib.itoa x.2.2).toArray⟩ := rfl
      obtain ⟨c1, c2, c3⟩ := x
      dsimp only at *
      have z1 := Lib.itoa_length_le c1 n1.1 n1.2
      have z2 := Lib.itoa_length_le c2 n2.1 n2.2
      have z3 := Lib.itoa_length_le c3 n3.1 n3.2
      obtain ⟨A1, hA1⟩ : ∃ A1, nt c1 = A1 := ⟨_, rfl⟩
      obtain ⟨A2, hA2⟩ : ∃ A2, nt c2 = A2 := ⟨_, rfl⟩
      obtain ⟨A3, hA3⟩ : ∃ A3, nt c3 = A3 := ⟨_, rfl⟩
      obtain ⟨T1, hT1⟩ : ∃ T1, (⟨(Lib.itoa c1 ++ [58]).toArray⟩ : ByteArray) = T1 := ⟨_, rfl⟩
      obtain ⟨T2, hT2⟩ : ∃ T2, (⟨(Lib.itoa c1 ++ [58] ++ Lib.itoa c2).toArray⟩ : ByteArray) = T2 := ⟨_, rfl⟩
      obtain ⟨T3, hT3⟩ : ∃ T3, (⟨(Lib.itoa c1 ++ [58] ++ Lib.itoa c2 ++ [43]).toArray⟩ : ByteArray) = T3 := ⟨_, rfl⟩
      obtain ⟨T4, hT4⟩ : ∃ T4, ct (c1, c2, c3) = T4 := ⟨_, rfl⟩
      have P1 : ∀ w, (Op.stringOp .add A1 ⟨#[58]⟩).run Tryz.prog w = .ok (.string T1) w := fun w => str_add (a := Lib.itoa c1) (b := [58]) hA1 rfl hT1 (by simp; omega) rfl w
      have P2 : ∀ w, (Op.stringOp .add T1 A2).run Tryz.prog w = .ok (.string T2) w := fun w => str_add (a := Lib.itoa c1 ++ [58]) (b := Lib.itoa c2) hT1 hA2 hT2 (by simp; omega) rfl w
      have P3 : ∀ w, (Op.stringOp .add T2 ⟨#[43]⟩).run Tryz.prog w = .ok (.string T3) w := fun w => str_add (a := Lib.itoa c1 ++ [58] ++ Lib.itoa c2) (b := [43]) hT2 rfl hT3 (by simp; omega) rfl w
      have P4 : ∀ w, (Op.stringOp .add T3 A3).run Tryz.prog w = .ok (.string T4) w := fun w => str_add (a := Lib.itoa c1 ++ [58] ++ Lib.itoa c2 ++ [43]) (b := Lib.itoa c3) hT3 hA3 hT4 (by simp; omega) rfl w
      rw [hT4] at hne
      have N1 := hide (fun w (h : Gv w) => ntext64 c1 n1 w h)
      have N2 := hide (fun w (h : Gv w) => ntext64 c2 n2 w h)
      have N3 := hide (fun w (h : Gv w) => ntext64 c3 n3 w h)
      rw [hA1] at N1
      rw [hA2] at N2
      rw [hA3] at N3
      have hbA : Below wr.heap.size wr (wr.alloc (.cells #[.int .i64 c1, .int .i64 c2, .int .i64 c3] 94)) := (Below.refl _ _).alloc (Nat.le_refl _) _
      have SX : (wr.alloc (.cells #[.int .i64 c1, .int .i64 c2, .int .i64 c3] 94)).cell? ⟨wr.heap.size, 0, none⟩ = some (.int .i64 c1) ∧ (wr.alloc (.cells #[.int .i64 c1, .int .i64 c2, .int .i64 c3] 94)).cell? ⟨wr.heap.size, 1, none⟩ = some (.int .i64 c2) ∧ (wr.alloc (.cells #[.int .i64 c1, .int .i64 c2, .int .i64 c3] 94)).cell? ⟨wr.heap.size, 2, none⟩ = some (.int .i64 c3) ∧ (wr.alloc (.cells #[.int .i64 c1, .int .i64 c2, .int .i64 c3] 94)).ownsRow w.heap.size 9 1 (.slice (some ⟨g, 0, none⟩) k c) k ((l.take k).map fun x => Value.string (ct x)) ∧ Gv (wr.alloc (.cells #[.int .i64 c1, .int .i64 c2, .int .i64 c3] 94)) ∧ Below wr.heap.size wr (wr.alloc (.cells #[.int .i64 c1, .int .i64 c2, .int .i64 c3] 94)) :=
        ⟨by simp [go_sem], by simp [go_sem], by simp [go_sem], ownsRow_below (unhide ho) hbA, ((unhide hG').below (unhide hw)).below hbA, hbA⟩
      have hBw := (unhide hw).size
      have hgl : g < wr.heap.size := own_lt (unhide ho)
      clear hA1 hA2 hA3 hT1 hT2 hT3 hT4 z1 z2 z3 n1 n2 n3 hct d0 d1 d2 C hx ho hbA
      generalize hxs : (l.take k).map (fun x => Value.string (ct x)) = xs at *
      have hxs' := hide hxs
      clear hxs
      go_upto_region 5 with fail
      obtain ⟨X, hX⟩ : ∃ X, wr.alloc (.cells #[.int .i64 c1, .int .i64 c2, .int .i64 c3] 94) = X := ⟨_, rfl⟩
      rw [hX] at SX ⊢
      have SX' := hide SX
      clear hX SX
      generalize wr.heap.size = E at *
      have SD : Hid (X.drew.cell? ⟨E, 0, none⟩ = some (.int .i64 c1) ∧ X.drew.cell? ⟨E, 1, none⟩ = some (.int .i64 c2) ∧ X.drew.cell? ⟨E, 2, none⟩ = some (.int .i64 c3) ∧ X.drew.ownsRow w.heap.size 9 1 (.slice (some ⟨g, 0, none⟩) k c) k xs ∧ Gv X.drew ∧ Below X.heap.size X X.drew) :=
        hide (keepC (X := X) ⟨(unhide SX').1, (unhide SX').2.1, (unhide SX').2.2.1, (unhide SX').2.2.2.1, (unhide SX').2.2.2.2.1, Below.refl _ _⟩ ((Below.refl _ _).drew))
      have hXw := hide ((unhide hw).trans ((unhide SX').2.2.2.2.2.mono hBw))
      have hXs := (unhide hXw).size
      clear SX'
      have hgE : (Value.slice (some ⟨g, 0, none⟩) k c).ownBlock ≠ some E := by intro e; have e2 : g = E := Option.some.inj e; omega
      go_region_held3 (fun w' => w'.cell? ⟨E, 0, none⟩ = some (.int .i64 c1) ∧ w'.cell? ⟨E, 1, none⟩ = some (.int .i64 c2) ∧ w'.cell? ⟨E, 2, none⟩ = some (.int .i64 c3))
        (first | exact k4 | exact ⟨(unhide S5).1, (unhide S5).2.1, (unhide S5).2.2.1⟩ | exact ⟨(unhide S4).1, (unhide S4).2.1, (unhide S4).2.2.1⟩ | exact ⟨(unhide S3).1, (unhide S3).2.1, (unhide S3).2.2.1⟩ | exact ⟨(unhide S2).1, (unhide S2).2.1, (unhide S2).2.2.1⟩ | exact ⟨(unhide SD).1, (unhide SD).2.1, (unhide SD).2.2.1⟩)
        (first
          | (go_at_call 49; with_reducible refine (unhide N1 _ (unhide SD).2.2.2.2.1).mono ?_; rintro e w2 ⟨rfl, hb2⟩; have S2 := hide (keepC (unhide SD) hb2); clear hb2)
          | (go_at_call 49; with_reducible refine (unhide N2 _ (unhide S2).2.2.2.2.1).mono ?_; rintro e w3 ⟨rfl, hb3⟩; have S3 := hide (keepC (unhide S2) hb3); clear hb3)
          | (go_at_call 49; with_reducible refine (unhide N3 _ (unhide S3).2.2.2.2.1).mono ?_; rintro e w4 ⟨rfl, hb4⟩; have S4 := hide (keepC (unhide S3) hb4); have S5 := hide (keepC (unhide S4) ((Below.refl _ w4).alloc (Nat.le_refl _) (.cells #[.string T4] 9))); clear hb4)
          | (refine step_oneC (unhide S4) rfl _ _ rfl rfl rfl (by omega) hXs hgE ?_; intro g' cap' w' k1 k2 k3 k4))
      have k1' := hide k1
      have k3' := hide k3
      have hN : Hid (w'.ownsRow w.heap.size 9 1 (.slice (some ⟨g', 0, none⟩) (k + 1) cap') (k + 1) ((l.take (k + 1)).map fun x => Value.string (ct x))) := hide (by rw [← unhide hne]; exact k1)
      have hw' := hide ((unhide hXw).trans k3)
      clear k1 k3 k1' k3' N1 N2 N3 P1 P2 P3 P4
      go_wp2
      go_roundw
      case rel => exact ⟨k + 1, g', cap', by omega, by go_num, rfl, k2, hN, hw'⟩
      case measure => simp [intOf]; omega
    · obtain rfl : k = l.length := by omega
      have hlt' : decide ((l.length : Int) < l.length) = false := by simp
      have ho' := hide (show wr.ownsRow w.heap.size 9 1 (.slice (some ⟨g, 0, none⟩) l.length c) l.length (l.map fun x => Value.string (ct x)) from by have := unhide ho; rw [List.take_length] at this; exact this)
      clear ho
      go_wp2
      go_ret
      exact ⟨g, c, rfl, hg, unhide ho', unhide hw⟩
end Go.Proofs.YtioaehjppiodfaaGreatDoor

namespace Go.Proofs.YtioaehjppiodfaaGreatDoor
open Go.RowKit
set_option linter.unusedVariables false
set_option linter.unusedSimpArgs false

/-- an answer: a refusal, numbers or clips -/
inductive An where
  | err (n : Int)
  | nums (L : List Int)
  | clips (l : List Kl)
/-- an answer in memory -/
def AnV (w : World) (v : Value) : An → Prop
  | .err n => v = .iface 75 (.int .i64 n)
  | .nums L => ∃ a c, v = .iface 77 (.slice a L.length c) ∧ Ins w a L
  | .clips l => ∃ a c, v = .iface 78 (.slice a l.length c) ∧ Kls w a l
theorem AnV.below {w w' : World} {v : Value} {A : An} (h : AnV w v A) (hb : Below w.heap.size w w') : AnV w' v A := by
  cases A with
  | err n => exact h
  | nums L => obtain ⟨a, c, e, k⟩ := h; exact ⟨a, c, e, k.below hb⟩
  | clips l => obtain ⟨a, c, e, k⟩ := h; exact ⟨a, c, e, k.below hb⟩
/-- .. whose numbers are not too great -/
def AnOk : An → Prop
  | .err n => B64 n
  | .nums L => L.length ≤ 100 ∧ ∀ x ∈ L, B64 x
  | .clips l => l.length ≤ 1000 ∧ ∀ x ∈ l, B64K x
/-- its words -/
def awords : An → List (List UInt8)
  | .err n => [[101, 114, 114, 111, 114], Lib.itoa n]
  | .nums L => [111, 107] :: L.map Lib.itoa
  | .clips l => [111, 107] :: l.map ctL
/-- its text -/
def atext (A : An) : ByteArray := ⟨(Lib.join (awords A) [32]).toArray⟩

theorem ta75 (v : Value) (w : World) : (Instr.typeAssert (.iface 75 v) 20 75 true).run Tryz.prog w = .ok (.tuple #[v, .bool true]) w := by
  simp [Instr.typeAssert, run_underlying Tryz.underlying75]
theorem ta77 (v : Value) (w : World) : (Instr.typeAssert (.iface 77 v) 20 77 true).run Tryz.prog w = .ok (.tuple #[v, .bool true]) w := by
  simp [Instr.typeAssert, run_underlying Tryz.underlying77]
theorem ta78 (v : Value) (w : World) : (Instr.typeAssert (.iface 78 v) 20 78 true).run Tryz.prog w = .ok (.tuple #[v, .bool true]) w := by
  simp [Instr.typeAssert, run_underlying Tryz.underlying78]
theorem ta7775 (v : Value) (w : World) : (Instr.typeAssert (.iface 77 v) 20 75 true).run Tryz.prog w = .ok (.tuple #[.int .i64 0, .bool false]) w := by
  simp [Instr.typeAssert, run_underlying Tryz.underlying75, Tryz.zeroValue75]
theorem ta7875 (v : Value) (w : World) : (Instr.typeAssert (.iface 78 v) 20 75 true).run Tryz.prog w = .ok (.tuple #[.int .i64 0, .bool false]) w := by
  simp [Instr.typeAssert, run_underlying Tryz.underlying75, Tryz.zeroValue75]
theorem ta7877 (v : Value) (w : World) : (Instr.typeAssert (.iface 78 v) 20 77 true).run Tryz.prog w = .ok (.tuple #[.slice none 0 0, .bool false]) w := by
  simp [Instr.typeAssert, run_underlying Tryz.underlying77, Tryz.zeroValue77]

/-- strings in a row, as strings.Join takes them -/
theorem join_row {w : World} {B g n cap : Nat} (W : List (List UInt8)) (hW : W.length = n) (ho : w.ownsRow B 9 1 (.slice (some ⟨g, 0, none⟩) n cap) n (W.map fun x => Value.string ⟨x.toArray⟩)) (hn : n ≤ 100000) (hlen : (Lib.join W [32]).length ≤ 140737488355328) :
    Calls Tryz.prog 51 #[.slice (some ⟨g, 0, none⟩) n cap, .string ⟨#[32]⟩] w fun e w' => e = .returned (.string ⟨(Lib.join W [32]).toArray⟩) ∧ Below w.heap.size w w' := by
  have hc : n ≤ cap := by
    rcases ho.2 with ⟨h1, _⟩ | ⟨g', c', cur, hv, _, _, h3, _⟩
    · cases h1
    · injection hv with _ _ e3; omega
  have h := Tryz.strings_Join g 0 cap (W.map fun x => (⟨x.toArray⟩ : ByteArray)) ⟨#[32]⟩ w ?_ (own_lt ho) (by simp; omega) (by simp; omega) ?_
  · simp only [List.length_map, List.map_map, Function.comp_def] at h
    rw [hW] at h
    have e : (W.map fun x => (⟨x.toArray⟩ : ByteArray).data.toList) = W := by simp
    rw [e] at h
    exact h
  · intro j x hx
    rw [List.getElem?_map] at hx
    obtain ⟨y, hy, rfl⟩ := Option.map_eq_some_iff.1 hx
    have hj : j < n := by have := (List.getElem?_eq_some_iff.1 hy).1; omega
    have := ho.cellAt j (by omega)
    rw [List.getElem?_map, hy] at this
    rw [Nat.zero_add]; exact this
  · simp only [List.map_map, Function.comp_def]
    have e : (W.map fun x => (⟨x.toArray⟩ : ByteArray).data.toList) = W := by simp
    rw [e]; exact hlen

set_option maxRecDepth 100000 in
set_option maxHeartbeats 1600000 in
theorem atext_err (n : Int) (w : World) (hn : B64 n) (hG : Gv w) :
    Calls Tryz.prog 18 #[.iface 75 (.int .i64 n)] w fun e w' => e = .returned (.string (atext (.err n))) ∧ Below w.heap.size w w' := by
  have hG' := hide hG
  have hn' := hide hn
  clear hG hn
  have k1 := ta75 (.int .i64 n)
  have hJ := hide (fun (w : World) (g : Nat) (h : w.ownsRow g 9 1 (.slice (some ⟨g, 0, none⟩) 2 2) 2 ((awords (.err n)).map fun x => Value.string ⟨x.toArray⟩)) => join_row (n := 2) (awords (.err n)) rfl h (by omega) (by
    have := Lib.itoa_length_le n (unhide hn').1 (unhide hn').2
    simp [awords, Lib.join]; omega))
  have hbw := (Below.refl w.heap.size w).alloc (Nat.le_refl _) (.cells #[.string ⟨#[111, 107]⟩] 9)
  have hbw' := hide hbw
  go_enter Tryz.func18, Tryz.ntmps18
  go_wp2_with fail
  refine (ntext64 n (unhide hn') _ ((unhide hG').below hbw)).mono ?_
  rintro e w2 ⟨rfl, hb2⟩
  have h2 := hide (laterB hbw hb2)
  have h3 := hide (laterB (unhide h2) ((Below.refl w2.heap.size w2).alloc (Nat.le_refl _) (.cells #[.string ⟨#[101, 114, 114, 111, 114]⟩, .string (nt n)] 9)))
  have hL := hide (World.ownsRow_lit (base := w2.heap.size) (e := 9) (size := 1) w2 #[.string ⟨#[101, 114, 114, 111, 114]⟩, .string (nt n)] 2 (Nat.le_refl _) (by unfold maxLen; omega) rfl)
  clear hb2 hbw
  go_wp2_with fail
  refine (unhide hJ _ _ (unhide hL)).mono ?_
  rintro e w3 ⟨rfl, hb3⟩
  have h4 := hide (laterB (unhide h3) hb3)
  clear hb3 hL hJ
  go_wp2
  go_ret
  exact ⟨rfl, unhide h4⟩

theorem join_len (W : List (List UInt8)) (K : Nat) (h : ∀ x ∈ W, x.length ≤ K) : (Lib.join W [32]).length ≤ W.length * (K + 1) := by
  induction W with
  | nil => simp [Lib.join]
  | cons x W ih =>
    have hx := h x (by simp)
    have ih' := ih (fun y hy => h y (by simp [hy]))
    have e : (x :: W).length * (K + 1) = W.length * (K + 1) + (K + 1) := by rw [List.length_cons, Nat.succ_mul]
    rw [e]
    cases W with
    | nil => simp [Lib.join] at *; omega
    | cons y W =>
      simp [Lib.join] at *
      omega
theorem ctL_len {c : Kl} (h : B64K c) : (ctL c).length ≤ 65 := by
  have z1 := Lib.itoa_length_le c.1 h.1.1 h.1.2
  have z2 := Lib.itoa_length_le c.2.1 h.2.1.1 h.2.1.2
  have z3 := Lib.itoa_length_le c.2.2 h.2.2.1 h.2.2.2
  unfold ctL
  simp; omega
end Go.Proofs.YtioaehjppiodfaaGreatDoor
