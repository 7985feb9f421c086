/-
  Contracts of what the program's FindBox calls: the place of a kind, the end of a box, a text parted at a slash; each answers, and nothing is written.
-/
import Derived.Test.YtfdbnlmfnhhcbaaSOk
import Derived.Test.YtfdbnlmfnhhcbaaFindP
import Derived.Lib.Bytealg
namespace Go.Proofs.Ytfdbnlmfnhhcbaa
open Go.RowKit
set_option linter.unusedVariables false
set_option linter.unusedSimpArgs false

theorem hit_at {l : List Bx} {j : Nat} {x : Bx} {d : Int} {k : ByteArray} (h : l[j]? = some x) : hit l d k.data.toList j = (decide (x.d = d) && decide (x.k = k)) := by
  unfold hit
  rw [h]
  have e : (x.k.data.toList = k.data.toList) ↔ x.k = k := ⟨fun e => by
    cases hx : x.k; cases k
    rw [hx] at e
    simp at e; simp [e], fun e => by rw [e]⟩
  simp only [e]

theorem deeper_at {l : List Bx} {j : Nat} {x : Bx} {d : Int} (h : l[j]? = some x) : deeper l d j = decide (d < x.d) := by
  unfold deeper; rw [h]
set_option maxHeartbeats 800000 in
theorem eo_any (a : Option Addr) (cap : Nat) (A : Nat → Option Addr × Nat) (l : List Bx) (i : Nat) (w : World) (hl : l.length ≤ 1048576) (hi : i < l.length) (hr : Bxs false 0 w.heap.size w a A l) :
    Calls Try.prog 19 #[.slice a l.length cap, .int .i64 i] w fun e w' => e = .returned (.int .i64 (eo l i)) ∧ ∃ n, w' = w.drewN n := by
  have hr' := hide hr
  clear hr
  obtain ⟨y, hy⟩ : ∃ y, l[i]? = some y := ⟨l[i], List.getElem?_eq_getElem hi⟩
  obtain ⟨b, o, rfl, _, _, e0, e1, e2, _, _, y0, y1, _, _, _⟩ := unhide hr' i y hy
  have heo : Hid (eo l i = eoN l y.d (l.length - (i + 1)) (i + 1)) := hide (by unfold eo depAt; rw [hy])
  clear hy e0 e2
  go_enter Try.func19, Try.ntmps19
  go_wp2
  go_loopw [5] (fun t wr => ∃ q n : Nat, i + 1 ≤ q ∧ q ≤ l.length ∧ t = .int .i64 q ∧ Hid (eo l i = eoN l y.d (l.length - q) q) ∧ wr = w.drewN n) (fun t _ => l.length - (intOf t).toNat)
  case atStart => exact ⟨i + 1, 0, by omega, by omega, by go_num, heo, rfl⟩
  case round =>
    obtain ⟨q, n, hq, hql, rfl, hp, rfl⟩ := hrel
    by_cases hlt : q < l.length
    · obtain ⟨x, hx⟩ : ∃ x, l[q]? = some x := ⟨l[q], List.getElem?_eq_getElem hlt⟩
      obtain ⟨b', o', hbo, _, _, c0, c1, c2, hrow, k1, d0, d1, _, _, _⟩ := unhide hr' q x hx
      injection hbo with hbo
      injection hbo with eb eo' _
      subst eb eo'
      have hstep : Hid (eoN l y.d (l.length - q) q = if deeper l y.d q = true then eoN l y.d (l.length - (q + 1)) (q + 1) else q) := hide (by
        rw [show l.length - q = (l.length - (q + 1)) + 1 by omega]; rfl)
      have hh := hide (deeper_at (d := y.d) hx)
      have hrow' := hide hrow
      have hltb : decide ((q : Int) < (l.length : Int)) = true := decide_eq_true (by omega)
      clear hx c0 c2 hrow
      by_cases hd : y.d < x.d
      · have hn : Hid (eo l i = eoN l y.d (l.length - (q + 1)) (q + 1)) := hide (by rw [unhide hp, unhide hstep, unhide hh, decide_eq_true hd]; simp)
        have hdb : decide (y.d < x.d) = true := decide_eq_true hd
        go_wp2
        go_quiet (fail)
        go_wp2
        go_roundw
        case rel => exact ⟨q + 1, _, by omega, by omega, by go_num, hn, rfl⟩
        case measure => simp [intOf]; omega
      · have hn : Hid (eo l i = q) := hide (by rw [unhide hp, unhide hstep, unhide hh, decide_eq_false hd]; simp)
        have hdb : decide (y.d < x.d) = false := decide_eq_false hd
        go_wp2
        go_quiet (fail)
        go_wp2
        go_ret
        exact ⟨ret_int (by rw [unhide hn]), _, World.drewN_drewN _ _ _⟩
    · have hn : Hid (eo l i = q) := hide (by rw [unhide hp, show l.length - q = 0 by omega]; rfl)
      have hltb : decide ((q : Int) < (l.length : Int)) = false := decide_eq_false (by omega)
      go_wp2
      go_quiet (fail)
      go_wp2
      go_ret
      exact ⟨ret_int (by rw [unhide hn]), _, World.drewN_drewN _ _ _⟩

def slash : ByteArray := { data := #[47] }
theorem idx_cut (p : List UInt8) : (Lib.indexByte p 47 = -1 ∧ (cutL p).2 = none) ∨ ∃ i : Nat, Lib.indexByte p 47 = i ∧ i < p.length ∧ (cutL p).1 = p.take i ∧ (cutL p).2 = some (p.drop (i + 1)) := by
  induction p with
  | nil => left; exact ⟨rfl, rfl⟩
  | cons c t ih =>
    unfold Lib.indexByte cutL
    by_cases hc : c = 47
    · right
      exact ⟨0, by simp [hc], by simp, by simp [hc], by simp [hc]⟩
    · have hcb : (c == 47) = false := by simpa using hc
      rcases ih with ⟨h1, h2⟩ | ⟨i, h1, h2, h3, h4⟩
      · left; simp [hcb, hc, h1, h2]
      · right
        refine ⟨i + 1, ?_, by simp; omega, by simp [hc, h3], by simp [hc, h4]⟩
        have hne : ((i : Int) == -1) = false := by rw [beq_eq_false_iff_ne]; omega
        simp [hcb, h1, hne]
theorem one_byte {s : ByteArray} (h : s.data.toList = [47]) : s = slash := by
  have : s.data.toList = slash.data.toList := h
  exact Go.WideShapes.bytes_inj this
/-- the text ahead of the first slash, and the one behind it -/
def segB (s : ByteArray) : ByteArray := ⟨(cutL s.data.toList).1.toArray⟩
def restB (s : ByteArray) : ByteArray := ⟨((cutL s.data.toList).2.getD []).toArray⟩
theorem segB_list (s : ByteArray) : (segB s).data.toList = (cutL s.data.toList).1 := by simp [segB]
theorem restB_list (s : ByteArray) : (restB s).data.toList = (cutL s.data.toList).2.getD [] := by simp [restB]
theorem extract_list (s : ByteArray) (i j : Nat) : (s.extract i j).data.toList = (s.data.toList.take j).drop i := by
  rw [ByteArray.data_extract, Array.toList_extract]
  rw [List.extract_eq_take_drop, List.drop_take]
theorem rest_le {s : ByteArray} : (restB s).size ≤ s.size := by
  have h : (restB s).size = ((cutL s.data.toList).2.getD []).length := by simp [restB, ByteArray.size]
  rw [h]
  cases hr : (cutL s.data.toList).2 with
  | none => simp
  | some r => have := cutL_short _ r hr; simp at this ⊢; omega
theorem ifind_none {l : List Bx} {n dep a b q : Nat} {p : List UInt8} (h : pkN l dep (cutL p).1 (b - a) a = q) (hr : (cutL p).2 = none) : ifind l (n + 1) dep a b p = q := by
  unfold ifind; rw [h, hr]
theorem ifind_some {l : List Bx} {n dep a b q : Nat} {p r : List UInt8} (h : pkN l dep (cutL p).1 (b - a) a = q) (hr : (cutL p).2 = some r) : ifind l (n + 1) dep a b p = ifind l n (dep + 1) (q + 1) (eo l q) r := by
  conv => lhs; unfold ifind
  rw [h, hr]
theorem ifind_no {l : List Bx} {n dep a b : Nat} {p : List UInt8} (h : pkN l dep (cutL p).1 (b - a) a = -1) : ifind l (n + 1) dep a b p = -1 := by
  unfold ifind; rw [h]; rfl
theorem eo_le {l : List Bx} {q : Nat} (h : q < l.length) : eo l q ≤ l.length := by
  have := eoN_le l (depAt l q) (l.length - (q + 1)) (q + 1)
  unfold eo; omega

end Go.Proofs.Ytfdbnlmfnhhcbaa
