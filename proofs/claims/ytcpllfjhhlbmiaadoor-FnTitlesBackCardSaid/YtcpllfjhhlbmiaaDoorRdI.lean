/-
  A line of a text that is read: the contract of the model; the smaller of two numbers; nothing is written.
-/
import Derived.Test.YtcpllfjhhlbmiaaDoorRdC
import Derived.Lib.OwnKind
namespace Go.Proofs.YtcpllfjhhlbmiaaDoor
open Go.RowKit
set_option linter.unusedVariables false
set_option linter.unusedSimpArgs false

/-- a line from a place on, as the model takes it -/
def lnP (L : List UInt8) (k : Nat) : ByteArray × Int × Bool := match cutN (L.drop k) with
  | some (x, _) => (⟨x.toArray⟩, (k : Int) + x.length + 1, true)
  | none => (⟨#[]⟩, (k : Int), false)
/-- no newline so far -/
def noN (L : List UInt8) (k i : Nat) : Prop := cutN (L.drop k) = match cutN (L.drop i) with
  | some (x, r) => some ((L.drop k).take (i - k) ++ x, r)
  | none => none
theorem noN_refl (L : List UInt8) (k : Nat) : noN L k k := by
  unfold noN
  rw [Nat.sub_self, List.take_zero]
  cases cutN (L.drop k) with
  | none => rfl
  | some p => rfl
theorem drop_at {L : List UInt8} {i : Nat} {c : UInt8} (hc : L[i]? = some c) : L.drop i = c :: L.drop (i + 1) := by
  obtain ⟨h, e⟩ := List.getElem?_eq_some_iff.1 hc
  rw [List.drop_eq_getElem_cons h, e]
theorem noN_step {L : List UInt8} {k i : Nat} {c : UInt8} (h : noN L k i) (hk : k ≤ i) (hc : L[i]? = some c) (hn : c ≠ 10) : noN L k (i + 1) := by
  unfold noN at h ⊢
  rw [h, drop_at hc]
  have e1 : (L.drop k).take (i + 1 - k) = (L.drop k).take (i - k) ++ [c] := by
    rw [show i + 1 - k = (i - k) + 1 by omega, List.take_add_one, List.getElem?_drop, show k + (i - k) = i by omega, hc]; rfl
  rw [e1]
  rw [show cutN (c :: L.drop (i + 1)) = match cutN (L.drop (i + 1)) with | some (x, r') => some (c :: x, r') | none => none by rw [cutN, if_neg hn]; cases cutN (L.drop (i + 1)) <;> rfl]
  cases cutN (L.drop (i + 1)) with
  | none => rfl
  | some p => obtain ⟨x, r⟩ := p; simp
theorem noN_end {L : List UInt8} {k i : Nat} (h : noN L k i) (hi : L.length ≤ i) : lnP L k = (⟨#[]⟩, (k : Int), false) := by
  unfold noN at h
  unfold lnP
  rw [h, List.drop_of_length_le hi]
  rfl
theorem noN_found {L : List UInt8} {k i : Nat} (h : noN L k i) (hk : k ≤ i) (hc : L[i]? = some 10) : lnP L k = (⟨((L.take i).drop k).toArray⟩, (i : Int) + 1, true) := by
  have hi := (List.getElem?_eq_some_iff.1 hc).1
  unfold noN at h
  unfold lnP
  rw [h, drop_at hc]
  rw [show cutN (10 :: L.drop (i + 1)) = some ([], L.drop (i + 1)) by rw [cutN, if_pos rfl]]
  simp only [List.append_nil]
  rw [List.take_drop, show k + (i - k) = i by omega, List.length_drop, List.length_take]
  refine Prod.ext rfl (Prod.ext ?_ rfl)
  simp only
  omega
theorem mk_list {s : ByteArray} {l : List UInt8} (h : s.data.toList = l) : (⟨l.toArray⟩ : ByteArray) = s := by
  obtain ⟨⟨x⟩⟩ := s
  subst h; rfl
theorem min_any (a b m : Int) (w : World) (h : (if a < b then a else b) = m) : Calls Tryd.prog 55 #[.int .i64 a, .int .i64 b] w fun e w' => e = .returned (.int .i64 m) ∧ w' = w := by
  by_cases hb : a < b
  · rw [if_pos hb] at h
    subst h
    have g : decide (a < b) = true := decide_eq_true hb
    go_enter Tryd.func55, Tryd.ntmps55
    go_wp2
    go_ret
    exact ⟨rfl, rfl⟩
  · rw [if_neg hb] at h
    subst h
    have g : decide (a < b) = false := decide_eq_false hb
    go_enter Tryd.func55, Tryd.ntmps55
    go_wp2
    go_ret
    exact ⟨rfl, rfl⟩
set_option maxRecDepth 100000 in
set_option maxHeartbeats 6400000 in
theorem sline_any (s sx : ByteArray) (L : List UInt8) (k : Nat) (a : Int) (ok : Bool) (w : World) (hs : s.size ≤ 1048576) (hL : s.data.toList = L) (hk : k ≤ s.size) (hR : lnP L k = (sx, a, ok)) :
    Calls Tryd.prog 32 #[.string s, .int .i64 k] w fun e w' => e = .returned (.tuple #[.string sx, .int .i64 a, .bool ok]) ∧ w' = w := by
  have hsz' := hide (show s.size = L.length by rw [Lib.size_eq, hL])
  have hL' := hide hL
  have hR' := hide hR
  clear hL hR
  go_enter Tryd.func32, Tryd.ntmps32
  go_wp2
  go_loop [7] (fun t => ∃ i : Nat, k ≤ i ∧ i ≤ s.size ∧ t = .int .i64 i ∧ Hid (noN L k i)) (fun t => s.size - (intOf t).toNat)
  case atStart => exact ⟨k, by omega, by omega, rfl, hide (noN_refl L k)⟩
  case round =>
    obtain ⟨i, hki, hi, rfl, hN⟩ := hrel
    by_cases hlt : i < s.size
    · have hlt2 : decide ((i : Int) < (s.size : Int)) = true := decide_eq_true (by omega)
      obtain ⟨c, hc⟩ : ∃ c, L[i]? = some c := ⟨L[i]'(by have := unhide hsz'; omega), List.getElem?_eq_getElem (by have := unhide hsz'; omega)⟩
      have hidx := fun w => idx_str (unhide hL') hc w
      by_cases e10 : c = 10
      · have q4 : (((c.toNat : Nat) : Int) == 10) = true := by rw [e10]; rfl
        have hf := (unhide hR').symm.trans (noN_found (unhide hN) hki (e10 ▸ hc))
        simp only [Prod.mk.injEq] at hf
        obtain ⟨h1, h2, h3⟩ := hf
        have hx : s.extract k i = sx := by
          rw [h1]
          exact (mk_list (by rw [ext_list hki, unhide hL'])).symm
        have hx' := hide hx
        subst h2 h3
        clear hc h1 e10 hx
        go_wp2
        exact bodyPost_ret (v := .tuple #[.string sx, .int .i64 ((i : Int) + 1), .bool true]) (by rw [← unhide hx']; simp [results, Tryd.results32, go_sem]) rfl ⟨rfl, rfl⟩
      · have q4 : (((c.toNat : Nat) : Int) == 10) = false := by
          rw [beq_eq_false_iff_ne]
          intro e
          apply e10
          apply UInt8.toNat_inj.1
          have : (10 : UInt8).toNat = 10 := rfl
          omega
        have hN2 := hide (noN_step (unhide hN) hki hc e10)
        clear hc e10
        go_wp2
        go_round
        case rel => exact ⟨i + 1, by omega, by omega, by go_num, hN2⟩
        case measure => simp [intOf]; omega
    · have hlt2 : decide ((i : Int) < (s.size : Int)) = false := decide_eq_false (by omega)
      have hf := (unhide hR').symm.trans (noN_end (unhide hN) (by have := unhide hsz'; omega))
      simp only [Prod.mk.injEq] at hf
      obtain ⟨rfl, rfl, rfl⟩ := hf
      go_wp2
      exact bodyPost_ret (v := .tuple #[.string ⟨#[]⟩, .int .i64 k, .bool false]) (by simp [results, Tryd.results32, go_sem]) rfl ⟨rfl, rfl⟩

end Go.Proofs.YtcpllfjhhlbmiaaDoor
