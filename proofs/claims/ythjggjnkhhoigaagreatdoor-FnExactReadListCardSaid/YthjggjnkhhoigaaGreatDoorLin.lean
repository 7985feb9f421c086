/-
  The lines of a text: the iterator's contract.
-/
import Derived.Test.YthjggjnkhhoigaaGreatDoorItB
import Derived.Test.YthjggjnkhhoigaaGreatDoorLnR
import Derived.Test.YthjggjnkhhoigaaGreatDoorShelf
namespace Go.Proofs.YthjggjnkhhoigaaGreatDoor
open Go.RowKit Go.Shelf
set_option linter.unusedVariables false
set_option linter.unusedSimpArgs false
attribute [local go_sem] Oper.semAt_some

theorem idx_pre {a r : List UInt8} (h : 10 ∉ a) : Lib.indexByte (a ++ 10 :: r) 10 = a.length := by
  induction a with
  | nil => simp [Lib.indexByte]
  | cons b a ih =>
    have hb : (b == (10 : UInt8)) = false := by simp; intro e; exact h (by simp [e])
    rw [List.cons_append, Lib.indexByte, hb, ih (fun e => h (by simp [e]))]
    have : (((a.length : Int)) == -1) = false := by simp
    rw [this]; simp
theorem split10 (t : List UInt8) (h : t ≠ []) (hl : t.getLast? = some 10) : ∃ a r, t = a ++ 10 :: r ∧ 10 ∉ a ∧ (r = [] ∨ r.getLast? = some 10) := by
  induction t with
  | nil => exact absurd rfl h
  | cons b t ih =>
    by_cases hb : b = 10
    · subst hb
      refine ⟨[], t, rfl, by simp, ?_⟩
      cases t with
      | nil => exact .inl rfl
      | cons c t => exact .inr (by rw [List.getLast?_cons_cons] at hl; exact hl)
    · have ht : t ≠ [] := by intro e; subst e; simp at hl; exact hb hl
      obtain ⟨a, r, e, h1, h2⟩ := ih ht (by
        cases t with
        | nil => exact absurd rfl ht
        | cons c t => rw [List.getLast?_cons_cons] at hl; exact hl)
      exact ⟨b :: a, r, by rw [e]; rfl, by simp; exact ⟨fun e => hb e.symm, h1⟩, h2⟩
/-- what is given of a line -/
def encL (x : List UInt8) : Value := .string ⟨(x ++ [10]).toArray⟩
theorem grown_dr {w w1 : World} {g : Option Nat} (h : w.grownBy w1 g) : w.grownBy w1.drew g := ⟨h.os, h.tape, h.output, h.size, h.block⟩
theorem boxed_set9 {X : World} {b : Nat} {v u : Value} (h : Boxed X b 9 v) : Boxed (X.setCell ⟨b, 0, none⟩ u) b 9 u := h.set u
def strAt (X : World) (b : Nat) : Nat := match X.cell? ⟨b, 0, none⟩ with | some (.string s) => s.size | _ => 0
theorem strAt_of {X : World} {b : Nat} {s : ByteArray} (h : Boxed X b 9 (.string s)) : strAt X b = s.size := by unfold strAt; rw [h.cell]

set_option maxRecDepth 100000 in
set_option maxHeartbeats 4000000 in
theorem lines_in (n l0 A b : Nat) (s0 : ByteArray) (W : World) (hbx : Boxed W b 9 (.string s0)) (hz : s0.size ≤ 20000) (he : s0.data.toList = [] ∨ s0.data.toList.getLast? = some 10) (hA : A ≠ b)
    (J : List (List UInt8) → Nat → World → Prop) (Jx : Unit → Nat → World → Prop) (hJ : AbX b J) (hJx : AbX b Jx) (hrow : ∀ s r X, J s r X → r ≠ b)
    (hY : ∀ x rest r W1, J (x :: rest) r W1 → YieldAt Fence.wide (n - 1) Tryz.prog l0 #[encL x] W1 fun e W' =>
      (e = .returned (.bool true) ∧ ∃ r', J rest r' W' ∧ KeepX A r W1 W') ∨ (e = .returned (.bool false) ∧ ∃ r', Jx () r' W'))
    (h0 : ∃ r, J (linesOf s0.data.toList) r W) :
    CallsIn Fence.wide n Tryz.prog 45 #[.func (.yield l0) #[] #[], .pointer (some ⟨b, 0, none⟩)] W fun e W' => (∃ v, e = .returned v) ∧ ((∃ r, J [] r W') ∨ (∃ r, Jx () r W')) := by
  refine callsIn_of_wp Tryz.func45 rfl trivial ?_ rfl
  simp only [Tryz.ntmps45, List.size_toArray, List.length_cons, List.length_nil, Nat.reduceAdd, Nat.reduceSub, Array.replicate_succ, Array.replicate_zero, List.push_toArray, List.append_toArray, List.nil_append, List.cons_append]
  have hJ' := hide hJ
  have hY' := hide hY
  have hrow' := hide hrow
  have S0 := hide (show ∃ (s : ByteArray) (r : Nat), s.size ≤ 20000 ∧ (s.data.toList = [] ∨ s.data.toList.getLast? = some 10) ∧ Boxed W b 9 (.string s) ∧ J (linesOf s.data.toList) r W from by
    obtain ⟨r, hr⟩ := h0; exact ⟨s0, r, hz, he, hbx, hr⟩)
  clear hJ hY hrow hJx hbx hz he h0
  gi_wp2
  gi_loopw [3] (fun _ wr => Hid (∃ (s : ByteArray) (r : Nat), s.size ≤ 20000 ∧ (s.data.toList = [] ∨ s.data.toList.getLast? = some 10) ∧ Boxed wr b 9 (.string s) ∧ J (linesOf s.data.toList) r wr)) (fun _ wr => strAt wr b)
  case atStart => exact S0
  case round =>
    clear S0
    have hst := hrel
    obtain ⟨s, r, hz, he, hbx, hj⟩ := unhide hst
    clear hst hrel
    by_cases ht : s.data.toList = []
    · have hs0 : s.size = 0 := by rw [Lib.size_eq, ht]; rfl
      have cB := hbx.cell
      have hj' := hide hj
      have ht' := hide ht
      clear hj ht he hbx hz
      gi_wp2
      go_end0
      exact ⟨⟨_, rfl⟩, .inl ⟨r, by have := unhide hj'; rw [unhide ht'] at this; exact this⟩⟩
    · obtain ⟨a, rr, ha, h10, hlast⟩ := split10 _ ht (he.resolve_left ht)
      have hsz : s.size = a.length + 1 + rr.length := by rw [Lib.size_eq, ha]; simp; omega
      have hix : Lib.indexByte s.data.toList ((10 : Int).toNat.toUInt8) = a.length := by rw [ha]; exact idx_pre h10
      have e1 : s.extract 0 (a.length + 1) = ⟨(a ++ [10]).toArray⟩ := by rw [ext_str rfl (Nat.zero_le _), ha, show a ++ 10 :: rr = (a ++ [10]) ++ rr by simp, List.take_left' (by simp)]; rfl
      have e2 : (s.extract (a.length + 1) s.size).data.toList = rr := by rw [ext_str rfl (by omega), ha, show a ++ 10 :: rr = (a ++ [10]) ++ rr by simp, List.take_of_length_le (by simp; omega), List.drop_left' (by simp)]
      have hjl : J (a :: linesOf rr) r wr := by rw [ha, linesOf_pre h10] at hj; exact hj
      have hrb := unhide hrow' _ _ _ hj
      have hix' := hide hix
      have e1' := hide e1
      have e2' := hide e2
      have hj' := hide hjl
      have hbx' := hide hbx
      have hl' := hide hlast
      have cB := hbx.cell
      have fB := hbx.frozen
      have g0 : decide ((0 : Int) < s.size) = true := by simp; omega
      generalize a.length = k at *
      have g1 : decide ((0 : Int) ≤ k) = true := by simp
      have i1 : (0 : Int) ≤ (k : Int) + 1 := by omega
      have i2 : (k : Int) + 1 ≤ s.size := by omega
      have i3 : IntKind.i64.wrap ((k : Int) + 1) = (k : Int) + 1 := by rw [IntKind.wrap_i64]; omega
      have hsz' := hide hsz
      have hbW : Boxed (wr.setCell ⟨b, 0, none⟩ (.string (s.extract (k + 1) s.size))).drew b 9 (.string (s.extract (k + 1) s.size)) := boxed_set9 hbx
      have hJW : J (a :: linesOf rr) r (wr.setCell ⟨b, 0, none⟩ (.string (s.extract (k + 1) s.size))).drew := unhide hJ' _ _ _ _ (some b) hjl (grown_dr (grownBy_setCell' wr b _)) (fun j e => by cases e; exact ⟨rfl, _, hbW⟩)
      have hbW' := hide hbW
      obtain ⟨fn, tmps, assign, body, hy, hR⟩ := unhide hY' a (linesOf rr) r _ hJW
      have hy' : (Instr.yield l0 #[.string (s.extract 0 (k + 1))]).run Tryz.prog (wr.setCell ⟨b, 0, none⟩ (.string (s.extract (k + 1) s.size))).drew = .ok (.round l0 fn tmps assign body) (wr.setCell ⟨b, 0, none⟩ (.string (s.extract (k + 1) s.size))).drew := by rw [e1]; exact hy
      clear hy hbW hJW
      clear hj hjl hbx e1 e2 hix hlast ht he ha h10 hsz
      gi_wp2_with fail
      refine ⟨trivial, fun h => by simp [Fence.wide] at h, CallsIn.mono (callsIn_wide.2 (Tryz.strings_IndexByte s 10 _)) ?_⟩
      rintro e w2 ⟨rfl, rfl⟩
      rw [unhide hix']
      gi_wp2_with fail
      gi_region
      gi_wp2_with fail
      refine ⟨fun h => by simp [Fence.wide] at h, hR.mono ?_⟩
      rintro e W3 (⟨rfl, r', hJ3, hk3⟩ | ⟨rfl, r', hJx3⟩)
      · have B3 : Boxed W3 b 9 (.string (s.extract (k + 1) s.size)) := hk3.2 b _ (unhide hbW') rfl (Ne.symm hA) (Ne.symm hrb)
        have m0 : strAt _ b = s.size := strAt_of (unhide hbx')
        have m1 := strAt_of B3
        have hz3 : (s.extract (k + 1) s.size).size = rr.length := by rw [Lib.size_eq, unhide e2']
        have hS3 : Hid (∃ (s : ByteArray) (r : Nat), s.size ≤ 20000 ∧ (s.data.toList = [] ∨ s.data.toList.getLast? = some 10) ∧ Boxed W3 b 9 (.string s) ∧ J (linesOf s.data.toList) r W3) := hide ⟨_, r', by rw [hz3]; have := unhide hsz'; omega, by rw [unhide e2']; exact unhide hl', B3, by rw [unhide e2']; exact hJ3⟩
        have m0' := hide m0
        have m1' := hide m1
        have hz3' := hide hz3
        clear B3 hJ3 hk3 hy' hR cB fB m0 m1 hz3 hz
        gi_wp2
        go_roundw
        case rel => exact hS3
        case measure =>
          have := unhide hsz'
          have := unhide hz3'
          rw [unhide m1', unhide m0']; omega
      · clear hy' hR cB fB
        gi_wp2
        refine bodyPost_ret (results_none rfl _ _ _) rfl ?_
        exact ⟨⟨_, rfl⟩, .inr ⟨r', hJx3⟩⟩

theorem lines_seq (n A b : Nat) (s0 : ByteArray) (w : World) (hbx : Boxed w b 9 (.string s0)) (hz : s0.size ≤ 20000) (he : s0.data.toList = [] ∨ s0.data.toList.getLast? = some 10) (hA : A ≠ b) :
    SeqB n Tryz.prog 45 #[.pointer (some ⟨b, 0, none⟩)] encL A b (linesOf s0.data.toList) w :=
  fun l0 J Jx W hW hJ hJx hrow hY h0 => lines_in n l0 A b s0 W ((hW.block _ hbx.lt).trans hbx) hz he hA J Jx hJ hJx hrow hY h0

set_option maxHeartbeats 1000000 in
theorem lines_any (s : ByteArray) (w : World) :
    Calls Tryz.prog 30 #[.string s] w fun e w' => e = .returned (.func (.func 45) #[] #[.pointer (some ⟨w.heap.size, 0, none⟩)]) ∧ w' = w.alloc (.cells #[.string s] 9) := by
  go_enter Tryz.func30, Tryz.ntmps30
  go_wp2
  go_ret
  exact ⟨rfl, rfl⟩

end Go.Proofs.YthjggjnkhhoigaaGreatDoor
