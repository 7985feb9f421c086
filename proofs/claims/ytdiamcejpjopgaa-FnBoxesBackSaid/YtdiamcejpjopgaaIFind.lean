/-
  Contracts of what the program's FindBox calls: the place of a kind, the end of a box, a text parted at a slash; each answers, and nothing is written.
-/
import Derived.Test.YtdiamcejpjopgaaSOk
import Derived.Test.YtdiamcejpjopgaaFindP
import Derived.Lib.Bytealg
namespace Go.Proofs.Ytdiamcejpjopgaa
open Go.RowKit
set_option linter.unusedVariables false
set_option linter.unusedSimpArgs false

theorem hit_at {l : List Bx} {j : Nat} {x : Bx} {d : Int} {k : ByteArray} (h : l[j]? = some x) : hit l d k.data.toList j = (decide (x.d = d) && decide (x.k = k)) := by
  unfold hit
  rw [h]
  have e : (x.k.data.toList = k.data.toList) ↔ x.k = k := ⟨fun e => by
    cases hx : x.k; cases k
    rw [hx] at e
    simp at e; simp [e], fun e => by rw [e]⟩
  simp only [e]

set_option maxHeartbeats 800000 in
theorem pk_any (a : Option Addr) (cap : Nat) (A : Nat → Option Addr × Nat) (l : List Bx) (i j : Nat) (d : Int) (k : ByteArray) (w : World) (hl : l.length ≤ 1048576) (hj : j ≤ l.length) (hr : Bxs false 0 w.heap.size w a A l) :
    Calls Try.prog 49 #[.slice a l.length cap, .int .i64 i, .int .i64 j, .int .i64 d, .string k] w fun e w' => e = .returned (.int .i64 (pkN l d k.data.toList (j - i) i)) ∧ w' = w := by
  have hr' := hide hr
  clear hr
  go_enter Try.func49, Try.ntmps49
  go_wp2
  go_loop [11] (fun t => ∃ q : Nat, i ≤ q ∧ t = .int .i64 q ∧ Hid (pkN l d k.data.toList (j - i) i = pkN l d k.data.toList (j - q) q)) (fun t => j - (intOf t).toNat)
  case atStart => exact ⟨i, by omega, rfl, hide rfl⟩
  case round =>
    obtain ⟨q, hq, rfl, hp⟩ := hrel
    by_cases hlt : q < j
    · obtain ⟨x, hx⟩ : ∃ x, l[q]? = some x := ⟨l[q]'(by omega), List.getElem?_eq_getElem (by omega)⟩
      obtain ⟨b, o, rfl, _, _, c0, c1, c2, hrow, k1, d0, d1, _, _, _⟩ := unhide hr' q x hx
      have hql : q < l.length := by omega
      have hstep : Hid (pkN l d k.data.toList (j - q) q = if hit l d k.data.toList q = true then (q : Int) else pkN l d k.data.toList (j - (q + 1)) (q + 1)) := hide (by
        rw [show j - q = (j - (q + 1)) + 1 by omega]; rfl)
      have hh := hit_at (d := d) (k := k) hx
      have hh' := hide hh
      have hrow' := hide hrow
      clear hx c2 hh hrow
      by_cases hd : x.d = d
      · subst hd
        by_cases hk : x.k = k
        · have hy : Hid (pkN l x.d k.data.toList (j - i) i = q) := hide (by rw [unhide hp, unhide hstep, unhide hh', decide_eq_true hk]; simp)
          have hkk := hide hk
          subst hk
          go_wp2
          go_ret
          exact ⟨ret_int (unhide hy).symm, rfl⟩
        · have hn : Hid (pkN l x.d k.data.toList (j - i) i = pkN l x.d k.data.toList (j - (q + 1)) (q + 1)) := hide (by rw [unhide hp, unhide hstep, unhide hh', decide_eq_false hk]; simp)
          have hkb : (x.k.toList == k.toList) = false := by rw [beq_eq_false_iff_ne, ByteArray.toList_eq, ByteArray.toList_eq]; exact fun e => hk (Go.WideShapes.bytes_inj e)
          go_wp2
          go_round
          case rel => exact ⟨q + 1, by omega, by go_num, hn⟩
          case measure => simp [intOf]; omega
      · have hn : Hid (pkN l d k.data.toList (j - i) i = pkN l d k.data.toList (j - (q + 1)) (q + 1)) := hide (by rw [unhide hp, unhide hstep, unhide hh', decide_eq_false hd]; simp)
        have hdb : (x.d == d) = false := by simpa using hd
        go_wp2
        go_round
        case rel => exact ⟨q + 1, by omega, by go_num, hn⟩
        case measure => simp [intOf]; omega
    · have hz : Hid (pkN l d k.data.toList (j - i) i = -1) := hide (by rw [unhide hp, show j - q = 0 by omega]; rfl)
      go_wp2
      go_ret
      exact ⟨ret_int (unhide hz).symm, rfl⟩

theorem deeper_at {l : List Bx} {j : Nat} {x : Bx} {d : Int} (h : l[j]? = some x) : deeper l d j = decide (d < x.d) := by
  unfold deeper; rw [h]
set_option maxHeartbeats 800000 in
theorem eo_any (a : Option Addr) (cap : Nat) (A : Nat → Option Addr × Nat) (l : List Bx) (i : Nat) (w : World) (hl : l.length ≤ 1048576) (hi : i < l.length) (hr : Bxs false 0 w.heap.size w a A l) :
    Calls Try.prog 38 #[.slice a l.length cap, .int .i64 i] w fun e w' => e = .returned (.int .i64 (eo l i)) ∧ ∃ n, w' = w.drewN n := by
  have hr' := hide hr
  clear hr
  obtain ⟨y, hy⟩ : ∃ y, l[i]? = some y := ⟨l[i], List.getElem?_eq_getElem hi⟩
  obtain ⟨b, o, rfl, _, _, e0, e1, e2, _, _, y0, y1, _, _, _⟩ := unhide hr' i y hy
  have heo : Hid (eo l i = eoN l y.d (l.length - (i + 1)) (i + 1)) := hide (by unfold eo depAt; rw [hy])
  clear hy e0 e2
  go_enter Try.func38, Try.ntmps38
  go_wp2
  go_loopw [5] (fun t wr => ∃ q n : Nat, i + 1 ≤ q ∧ q ≤ l.length ∧ t = .int .i64 q ∧ Hid (eo l i = eoN l y.d (l.length - q) q) ∧ wr = w.drewN n) (fun t _ => l.length - (intOf t).toNat)
  case atStart => exact ⟨i + 1, 0, by omega, by omega, by go_num, heo, rfl⟩
  case round =>
    obtain ⟨q, n, hq, hql, rfl, hp, rfl⟩ := hrel
    by_cases hlt : q < l.length
    · obtain ⟨x, hx⟩ : ∃ x, l[q]? = some x := ⟨l[q], List.getElem?_eq_getElem hlt⟩
      obtain ⟨b', o', hbo, _, _, c0, c1, c2, hrow, k1, d0, d1, _, _, _⟩ := unhide hr' q x hx
      injection hbo with hbo
      injection hbo with eb eo' _
      subst eb eo'
      have hstep : Hid (eoN l y.d (l.length - q) q = if deeper l y.d q = true then eoN l y.d (l.length - (q + 1)) (q + 1) else q) := hide (by
        rw [show l.length - q = (l.length - (q + 1)) + 1 by omega]; rfl)
      have hh := hide (deeper_at (d := y.d) hx)
      have hrow' := hide hrow
      have hltb : decide ((q : Int) < (l.length : Int)) = true := decide_eq_true (by omega)
      clear hx c0 c2 hrow
      by_cases hd : y.d < x.d
      · have hn : Hid (eo l i = eoN l y.d (l.length - (q + 1)) (q + 1)) := hide (by rw [unhide hp, unhide hstep, unhide hh, decide_eq_true hd]; simp)
        have hdb : decide (y.d < x.d) = true := decide_eq_true hd
        go_wp2
        go_quiet (fail)
        go_wp2
        go_roundw
        case rel => exact ⟨q + 1, _, by omega, by omega, by go_num, hn, rfl⟩
        case measure => simp [intOf]; omega
      · have hn : Hid (eo l i = q) := hide (by rw [unhide hp, unhide hstep, unhide hh, decide_eq_false hd]; simp)
        have hdb : decide (y.d < x.d) = false := decide_eq_false hd
        go_wp2
        go_quiet (fail)
        go_wp2
        go_ret
        exact ⟨ret_int (by rw [unhide hn]), _, World.drewN_drewN _ _ _⟩
    · have hn : Hid (eo l i = q) := hide (by rw [unhide hp, show l.length - q = 0 by omega]; rfl)
      have hltb : decide ((q : Int) < (l.length : Int)) = false := decide_eq_false (by omega)
      go_wp2
      go_quiet (fail)
      go_wp2
      go_ret
      exact ⟨ret_int (by rw [unhide hn]), _, World.drewN_drewN _ _ _⟩

def slash : ByteArray := { data := #[47] }
theorem idx_cut (p : List UInt8) : (Lib.indexByte p 47 = -1 ∧ (cutL p).2 = none) ∨ ∃ i : Nat, Lib.indexByte p 47 = i ∧ i < p.length ∧ (cutL p).1 = p.take i ∧ (cutL p).2 = some (p.drop (i + 1)) := by
  induction p with
  | nil => left; exact ⟨rfl, rfl⟩
  | cons c t ih =>
    unfold Lib.indexByte cutL
    by_cases hc : c = 47
    · right
      exact ⟨0, by simp [hc], by simp, by simp [hc], by simp [hc]⟩
    · have hcb : (c == 47) = false := by simpa using hc
      rcases ih with ⟨h1, h2⟩ | ⟨i, h1, h2, h3, h4⟩
      · left; simp [hcb, hc, h1, h2]
      · right
        refine ⟨i + 1, ?_, by simp; omega, by simp [hc, h3], by simp [hc, h4]⟩
        have hne : ((i : Int) == -1) = false := by rw [beq_eq_false_iff_ne]; omega
        simp [hcb, h1, hne]
set_option maxRecDepth 100000 in
set_option maxHeartbeats 400000 in
theorem ib_any (s : ByteArray) (w : World) :
    Calls Try.prog 72 #[.string s, .int .u8 47] w fun e w' => e = .returned (.int .i64 (Lib.indexByte s.data.toList 47)) ∧ w' = w := by
  go_enter Try.func72, Try.ntmps72
  go_wp2
  rw [run_callFunc_extern Try.func76 (by kernel_rfl) (by kernel_rfl) (by kernel_rfl) (e := Extern.BytealgIndexByte.indexByte) (by kernel_rfl), Lib.run_indexByteString]
  simp only [Result.andThen]
  rw [Oper.upon_value]
  go_wp2
  go_ret
  exact ⟨rfl, rfl⟩

theorem one_byte {s : ByteArray} (h : s.data.toList = [47]) : s = slash := by
  have : s.data.toList = slash.data.toList := h
  exact Go.WideShapes.bytes_inj this
set_option maxRecDepth 100000 in
set_option maxHeartbeats 400000 in
theorem ix_any (s : ByteArray) (w : World) (hs : s.size ≤ 1048576) :
    Calls Try.prog 69 #[.string s, .string slash] w fun e w' => e = .returned (.int .i64 (Lib.indexByte s.data.toList 47)) ∧ w' = w := by
  by_cases h : s.data.toList = [47]
  · have e := one_byte h
    subst e
    have hi : Lib.indexByte slash.data.toList 47 = 0 := by decide
    rw [hi]
    unfold slash
    go_enter Try.func69, Try.ntmps69
    go_wp2
    go_ret
    exact ⟨rfl, rfl⟩
  · have hb : ([(47 : UInt8)] == s.toList) = false := by rw [beq_eq_false_iff_ne, ByteArray.toList_eq]; exact fun e => h e.symm
    unfold slash
    go_enter Try.func69, Try.ntmps69
    go_wp2_with fail
    refine (ib_any s _).mono ?_
    rintro e w1 ⟨rfl, rfl⟩
    go_wp2
    go_ret
    exact ⟨rfl, rfl⟩

/-- the text ahead of the first slash, and the one behind it -/
def segB (s : ByteArray) : ByteArray := ⟨(cutL s.data.toList).1.toArray⟩
def restB (s : ByteArray) : ByteArray := ⟨((cutL s.data.toList).2.getD []).toArray⟩
theorem segB_list (s : ByteArray) : (segB s).data.toList = (cutL s.data.toList).1 := by simp [segB]
theorem restB_list (s : ByteArray) : (restB s).data.toList = (cutL s.data.toList).2.getD [] := by simp [restB]
theorem extract_list (s : ByteArray) (i j : Nat) : (s.extract i j).data.toList = (s.data.toList.take j).drop i := by
  rw [ByteArray.data_extract, Array.toList_extract]
  rw [List.extract_eq_take_drop, List.drop_take]
set_option maxHeartbeats 800000 in
theorem cut_any (s : ByteArray) (w : World) (hs : s.size ≤ 1048576) :
    Calls Try.prog 61 #[.string s, .string slash] w fun e w' => e = .returned (.tuple #[.string (segB s), .string (restB s), .bool (cutL s.data.toList).2.isSome]) ∧ ∃ n, w' = w.drewN n := by
  rcases idx_cut s.data.toList with ⟨h1, h2⟩ | ⟨i, h1, h2, h3, h4⟩
  · have e1 : segB s = s := Go.WideShapes.bytes_inj (by rw [segB_list, cutL_none _ h2])
    have e2 : restB s = ⟨#[]⟩ := Go.WideShapes.bytes_inj (by rw [restB_list, h2]; rfl)
    rw [e1, e2, h2]
    clear e1 e2 h2
    go_enter Try.func61, Try.ntmps61
    go_wp2_with fail
    refine (ix_any s _ hs).mono ?_
    rintro e w1 ⟨rfl, rfl⟩
    rw [h1]
    go_wp2
    go_ret3
    exact ⟨rfl, 0, rfl⟩
  · have hil : i < s.size := by simpa using h2
    have e1 : segB s = s.extract 0 i := Go.WideShapes.bytes_inj (by rw [segB_list, h3, extract_list]; simp)
    have e2 : restB s = s.extract (i + 1) s.size := Go.WideShapes.bytes_inj (by rw [restB_list, h4, extract_list, List.take_of_length_le (by simp)]; rfl)
    rw [e1, e2, h4]
    clear e1 e2 h3 h4 h2
    have c1 : (0 : Int) ≤ ↑i := by omega
    have c2 : (↑i : Int) ≤ ↑s.size := by omega
    have c3 : (0 : Int) ≤ ↑i + 1 := by omega
    have c4 : (↑i + 1 : Int) ≤ ↑s.size := by omega
    go_enter Try.func61, Try.ntmps61
    go_wp2_with fail
    refine (ix_any s _ hs).mono ?_
    rintro e w1 ⟨rfl, rfl⟩
    rw [h1]
    unfold slash
    go_wp2
    go_quiet (fail)
    go_wp2
    go_ret3
    exact ⟨rfl, _, rfl⟩

set_option maxRecDepth 100000 in
set_option maxHeartbeats 800000 in
theorem scut_any (s : ByteArray) (w : World) (hs : s.size ≤ 1048576) :
    Calls Try.prog 48 #[.string s, .string slash] w fun e w' => e = .returned (.tuple #[.string (segB s), .string (restB s), .bool (cutL s.data.toList).2.isSome]) ∧ ∃ n, w' = w.drewN n := by
  generalize hg : (cutL s.data.toList).2.isSome = v
  unfold slash
  go_enter Try.func48, Try.ntmps48
  go_wp2_with fail
  refine (cut_any s _ hs).mono ?_
  rintro e w1 ⟨rfl, n, rfl⟩
  rw [hg]
  go_wp2
  go_ret3
  exact ⟨rfl, n, rfl⟩

theorem rest_le {s : ByteArray} : (restB s).size ≤ s.size := by
  have h : (restB s).size = ((cutL s.data.toList).2.getD []).length := by simp [restB, ByteArray.size]
  rw [h]
  cases hr : (cutL s.data.toList).2 with
  | none => simp
  | some r => have := cutL_short _ r hr; simp at this ⊢; omega
theorem ifind_none {l : List Bx} {n dep a b q : Nat} {p : List UInt8} (h : pkN l dep (cutL p).1 (b - a) a = q) (hr : (cutL p).2 = none) : ifind l (n + 1) dep a b p = q := by
  unfold ifind; rw [h, hr]
theorem ifind_some {l : List Bx} {n dep a b q : Nat} {p r : List UInt8} (h : pkN l dep (cutL p).1 (b - a) a = q) (hr : (cutL p).2 = some r) : ifind l (n + 1) dep a b p = ifind l n (dep + 1) (q + 1) (eo l q) r := by
  conv => lhs; unfold ifind
  rw [h, hr]
theorem ifind_no {l : List Bx} {n dep a b : Nat} {p : List UInt8} (h : pkN l dep (cutL p).1 (b - a) a = -1) : ifind l (n + 1) dep a b p = -1 := by
  unfold ifind; rw [h]; rfl
theorem eo_le {l : List Bx} {q : Nat} (h : q < l.length) : eo l q ≤ l.length := by
  have := eoN_le l (depAt l q) (l.length - (q + 1)) (q + 1)
  unfold eo; omega

set_option maxRecDepth 100000 in
set_option maxHeartbeats 1600000 in
theorem ifind_any (a : Option Addr) (cap : Nat) (A : Nat → Option Addr × Nat) (l : List Bx) (s : ByteArray) (w : World) (hl : l.length ≤ 1048576) (hs : Small 1048576 l) (hp : s.size ≤ 1048576) (hr : Bxs false 0 w.heap.size w a A l) :
    Calls Try.prog 20 #[.slice a l.length cap, .string s] w fun e w' => e = .returned (.int .i64 (find l s.data.toList)) ∧ Below w.heap.size w w' := by
  have hr' := hide hr
  have hs' := hide hs
  clear hr hs
  cases hok : ok l
  · have hf : find l s.data.toList = -1 := by unfold find; rw [hok]; rfl
    rw [hf]
    go_enter Try.func20, Try.ntmps20
    go_wp2_with fail
    refine (iok_any a cap A l false _ hl (unhide hs') (unhide hr') hok).mono ?_
    rintro e w1 ⟨rfl, b1⟩
    go_wp2
    go_ret
    exact ⟨rfl, b1⟩
  · have hf : find l s.data.toList = ifind l (s.size + 1) 0 0 l.length s.data.toList := by unfold find; rw [hok]; simp
    have hl200 : l.length ≤ 200 := by unfold ok at hok; simp at hok; exact hok.1.1
    go_enter Try.func20, Try.ntmps20
    go_wp2_with fail
    refine (iok_any a cap A l true _ hl (unhide hs') (unhide hr') hok).mono ?_
    rintro e w1 ⟨rfl, b1⟩
    have hf' := hide hf
    have hok' := hide hok
    clear hf hok
    go_wp2
    go_loopw [1, 5, 6, 7, 8, 9] (fun p t5 t6 t7 t8 t9 wr => ∃ (pl : Int) (i j d n : Nat) (r : ByteArray) (m : Bool), p = .string r ∧ t5 = .int .i64 pl ∧ t6 = .int .i64 i ∧ t7 = .int .i64 j ∧ t8 = .int .i64 d ∧ t9 = .bool m ∧ j ≤ l.length ∧ i ≤ 1048577 ∧ d ≤ 1048577 ∧ d + r.size ≤ s.size + 1 ∧ r.size ≤ 1048576 ∧ Hid (if m = true then find l s.data.toList = ifind l n d i j r.data.toList ∧ r.size < n ∧ d + r.size ≤ s.size else find l s.data.toList = pl) ∧ Below w.heap.size w wr) (fun p _ _ _ _ m _ => match p, m with | .string r, .bool true => r.size + 1 | _, _ => 0)
    case atStart => exact ⟨-1, 0, l.length, 0, s.size + 1, s, true, rfl, rfl, rfl, rfl, rfl, rfl, by omega, by omega, by omega, by omega, hp, hide (by rw [if_pos rfl]; exact ⟨unhide hf', by omega, by omega⟩), b1⟩
    case round =>
      obtain ⟨pl, i, j, d, n, r, m, rfl, rfl, rfl, rfl, rfl, rfl, hj, hi, hd, hd2, hrs, hI, hb⟩ := hrel
      cases m
      · have hI2 := unhide hI
        rw [if_neg (by decide)] at hI2
        have hI' := hide hI2
        clear hI hI2
        go_wp2
        go_ret
        exact ⟨ret_int (unhide hI').symm, hb⟩
      · have hI2 := unhide hI
        rw [if_pos rfl] at hI2
        obtain ⟨hI3, hn, hd3⟩ := hI2
        obtain ⟨n, rfl⟩ : ∃ n', n = n' + 1 := ⟨n - 1, by omega⟩
        have hI' := hide hI3
        have hb' := hide hb
        have hd3' := hide hd3
        clear hI hI3 hb hd3
        have hrr := hide (rest_le (s := r))
        go_wp2_with fail
        refine (scut_any r _ hrs).mono ?_
        rintro e w2 ⟨rfl, n2, rfl⟩
        go_wp2_with fail
        refine (pk_any a cap A l i j d (segB r) _ hl hj ?_).mono ?_
        · exact ((unhide hr').below (below_drewN (unhide hb') n2) (Nat.le_refl _)).mono (Nat.le_refl _) (unhide hb').size
        rintro e w3 ⟨rfl, rfl⟩
        rw [segB_list]
        rcases pkN_cases l d (cutL r.data.toList).1 (j - i) i with h1 | ⟨q, h1, q1, q2, q3⟩
        · have hR := hide ((unhide hI').trans (ifind_no h1))
          rw [h1]
          clear h1
          go_wp2
          go_ret
          exact ⟨ret_int (unhide hR).symm, below_drewN (unhide hb') n2⟩
        · rw [h1]
          have hql : q < l.length := by omega
          have hqn : ¬ (q : Int) < 0 := by omega
          go_wp2_with fail
          refine (eo_any a cap A l q _ hl hql ?_).mono ?_
          · exact ((unhide hr').below (below_drewN (unhide hb') n2) (Nat.le_refl _)).mono (Nat.le_refl _) (unhide hb').size
          rintro e w4 ⟨rfl, n4, rfl⟩
          have heo := eo_le hql
          cases hc : (cutL r.data.toList).2 with
          | none =>
            have hR := hide ((unhide hI').trans (ifind_none h1 hc))
            have hz0 : (restB r).size = 0 := by
              have h3 : (restB r).size = (restB r).data.toList.length := by simp
              rw [h3, restB_list, hc]; rfl
            have hne : (none : Option (List UInt8)).isSome = false := rfl
            clear h1 hc
            go_wp2
            go_roundw
            case rel => exact ⟨q, q + 1, eo l q, d + 1, n, restB r, false, rfl, rfl, by go_num, rfl, by go_num, rfl, heo, by omega, by have := unhide hd3'; omega, by have := unhide hd3'; omega, by omega, hide (by rw [if_neg (by decide)]; exact unhide hR), below_drewN (unhide hb') _⟩
            case measure => simp
          | some r2 =>
            have hR := hide ((unhide hI').trans (ifind_some h1 hc))
            have hrl : (restB r).data.toList = r2 := by rw [restB_list, hc]; rfl
            have hsz : (restB r).size < r.size := by
              have h2 := cutL_short _ r2 hc
              have h3 : (restB r).size = r2.length := by rw [← hrl]; simp
              have h4 : r.data.toList.length = r.size := by simp
              omega
            have hrl' := hide hrl
            clear h1 hc hrl
            go_wp2
            go_roundw
            case rel => exact ⟨q, q + 1, eo l q, d + 1, n, restB r, true, rfl, rfl, by go_num, rfl, by go_num, rfl, heo, by omega, by omega, by omega, by omega, hide (by rw [if_pos rfl, unhide hrl']; exact ⟨unhide hR, by omega, by have := unhide hd3'; omega⟩), below_drewN (unhide hb') _⟩
            case measure => simp; omega
end Go.Proofs.Ytdiamcejpjopgaa
