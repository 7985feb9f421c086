/-
  The text of a mark: its contract; how the law writes marks into a list of strings and into a list of assets, and looks for them again.
-/
import Derived.Test.YtpdnceeniokemaaSt
import Derived.Test.YtpdnceeniokemaaCopyL
import Derived.Test.YtpdnceeniokemaaDec
namespace Go.Proofs.Ytpdnceeniokemaa
open Go.RowKit
set_option linter.unusedVariables false
set_option linter.unusedSimpArgs false

theorem conv1 (x : Nat) (w : World) : (convert 22 9 (.slice (some ⟨w.heap.size, 0, none⟩) 1 1)).run Try.prog (w.alloc (.cells #[.int .u8 (48 + (x : Int) % 10)] 5)) = .ok (.string ⟨#[Pl.dg x]⟩) (w.alloc (.cells #[.int .u8 (48 + (x : Int) % 10)] 5)) := by
  refine run_convert_bytes_back (P := Try.prog) _ 22 9 5 ⟨w.heap.size, 0, none⟩ 1 [Pl.dg x] Try.underlying22 Try.underlying5 Try.underlying9 (fun j hj => ?_)
  match j, hj with
  | 0, _ => simp [Addr.add, Pl.dg_toNat]
theorem str_cons (c : UInt8) (l : List UInt8) : (⟨#[c]⟩ : ByteArray) ++ ⟨l.toArray⟩ = ⟨(c :: l).toArray⟩ := ByteArray.mk_append_mk [c] l
/-- the text of a mark -/
def mkT (z : Int) : ByteArray := ⟨(109 :: Pl.dec z.toNat).toArray⟩
set_option maxHeartbeats 400000 in
theorem mtext_any (q : Int) (w : World) (h1 : 1 ≤ q) (hn : q ≤ 9223372036854775807) :
    Calls Try.prog 70 #[.int .i64 q] w fun e w' => e = .returned (.string (mkT q)) ∧ Below w.heap.size w w' := by
  obtain ⟨n, rfl⟩ := Int.eq_ofNat_of_zero_le (show 0 ≤ q by omega)
  have hfin := hide (show mkT (n : Int) = ⟨(109 :: Pl.dec n).toArray⟩ by unfold mkT; simp)
  have h0 : decide ((n : Int) ≤ 0) = false := decide_eq_false (by omega)
  have h0n : decide (n = 0) = false := decide_eq_false (by omega)
  go_enter Try.func70, Try.ntmps70
  go_wp2
  go_loopw [0, 3] (fun t s wr => ∃ (x : Nat) (acc : List UInt8), t = .int .i64 x ∧ s = .string ⟨acc.toArray⟩ ∧ x ≤ n ∧ acc.length ≤ 9223372036854775807 - x - 1 ∧ Hid (Pl.decOn x acc = Pl.dec n) ∧ Below w.heap.size w wr) (fun t _ _ => (intOf t).toNat)
  case atStart => exact ⟨n, [], rfl, rfl, Nat.le_refl _, by simp, hide (by unfold Pl.decOn; rw [if_neg (by omega)]; simp), Below.refl _ _⟩
  case round =>
    obtain ⟨x, acc, rfl, rfl, hx, hl, hd, hb⟩ := hrel
    have kc := conv1 x
    by_cases hz : 0 < x
    · go_wp2
      go_roundw
      case rel => exact ⟨x / 10, Pl.dg x :: acc, by go_num, by rw [str_cons], by omega, by simp; omega, hide (by rw [Pl.decOn_step acc (by omega)]; exact unhide hd), hb.alloc hb.size _⟩
      case measure => simp [intOf]; omega
    · have hz' : x = 0 := by omega
      have hf2 : Hid (acc = Pl.dec n) := hide (by have := unhide hd; rw [hz'] at this; simpa [Pl.decOn] using this)
      subst hz'
      go_wp2
      go_ret
      refine ⟨?_, hb⟩
      rw [unhide hfin, ← unhide hf2, str_cons]
      rfl

theorem grown_below {w w1 w2 : World} {g : Option Nat} (h : w.grownBy w1 g) (hb : Below w1.heap.size w1 w2) : w.grownBy w2 g :=
  grown_trans h ⟨hb.os, hb.tape, hb.output, hb.size, fun j hj _ => hb.block j hj⟩
/-- the first i cells bear the marks from q on -/
def MkS (q : Int) (i : Nat) (xs : List Value) : Prop := ∀ j, j < i → xs[j]? = some (sv (mkT (q + j)))
theorem MkS.set {q : Int} {i : Nat} {xs : List Value} (h : MkS q i xs) (hi : i < xs.length) : MkS q (i + 1) (xs.set i (sv (mkT (q + i)))) := by
  intro j hj
  by_cases e : j = i
  · subst e; simp [hi]
  · rw [List.getElem?_set_ne (by omega)]; exact h j (by omega)
set_option maxHeartbeats 800000 in
theorem markS_any (B g n cap : Nat) (q : Int) (xs : List Value) (w : World) (hn : n ≤ 10000000) (q0 : 1 ≤ q) (q1 : q ≤ 100000000) (h : w.ownsRow B 9 1 (.slice (some ⟨g, 0, none⟩) n cap) n xs) :
    Calls Try.prog 34 #[.slice (some ⟨g, 0, none⟩) n cap, .int .i64 q] w fun e w' => e = .returned (.int .i64 (q + n)) ∧ (∃ ys, w'.ownsRow B 9 1 (.slice (some ⟨g, 0, none⟩) n cap) n ys ∧ MkS q n ys) ∧ w.grownBy w' (some g) := by
  have h' := hide h
  clear h
  go_enter Try.func34, Try.ntmps34
  go_wp2
  go_loopw [1, 5] (fun s t wr => ∃ k : Nat, k ≤ n ∧ t = .int .i64 k ∧ s = .int .i64 (q + k) ∧ Hid (∃ ys, wr.ownsRow B 9 1 (.slice (some ⟨g, 0, none⟩) n cap) n ys ∧ MkS q k ys) ∧ Hid (w.grownBy wr (some g))) (fun _ t _ => n - (intOf t).toNat)
  case atStart => exact ⟨0, by omega, rfl, by simp, hide ⟨xs, unhide h', fun j hj => by omega⟩, hide (grown_refl _ _)⟩
  case round =>
    obtain ⟨k, hk, rfl, rfl, hown, hg⟩ := hrel
    by_cases hlt : k < n
    · go_wp2_with fail
      refine (mtext_any (q + k) _ (by omega) (by omega)).mono ?_
      rintro e w1 ⟨rfl, k1⟩
      obtain ⟨ys, hy, hm⟩ := unhide hown
      have hy1 := ownsRow_below hy k1
      obtain ⟨v, c0, f0, _, hl⟩ := own_at (i := k) hy1 (by omega)
      have hnew := hide (show ∃ ys, (w1.setCell ⟨g, k, none⟩ (.string (mkT (q + k)))).ownsRow B 9 1 (.slice (some ⟨g, 0, none⟩) n cap) n ys ∧ MkS q (k + 1) ys from ⟨_, (hy1.stored k (sv (mkT (q + k)))).1, hm.set (by omega)⟩)
      have hG2 := hide (grown_set (v := .string (mkT (q + k))) (i := k) (grown_below (unhide hg) k1))
      clear hown hy hm hl hy1 k1
      go_wp2
      go_roundw
      case rel => exact ⟨k + 1, by omega, by go_num, by go_num, hnew, hG2⟩
      case measure => simp [intOf]; omega
    · have hke : k = n := by omega
      have hf : Hid (∃ ys, wr.ownsRow B 9 1 (.slice (some ⟨g, 0, none⟩) n cap) n ys ∧ MkS q n ys) := hide (by have := unhide hown; rw [hke] at this; exact this)
      clear hown
      go_wp2
      go_ret
      exact ⟨ret_int (by omega), unhide hf, unhide hg⟩

theorem keep1 {w w0 w1 : World} {a : Addr} {v : Value} (h : w0.cell? a = some v ∧ Below w.heap.size w w0) (hb : Below w0.heap.size w0 w1) : w1.cell? a = some v ∧ Below w.heap.size w w1 := ⟨cell_later hb h.1, laterB h.2 hb⟩
theorem keep1d {w w0 : World} {a : Addr} {v : Value} (h : w0.cell? a = some v ∧ Below w.heap.size w w0) : w0.drew.cell? a = some v ∧ Below w.heap.size w w0.drew := ⟨h.1, h.2.drew⟩
set_option maxHeartbeats 1600000 in
theorem heldS_any (B g n cap : Nat) (q : Int) (xs : List Value) (w : World) (hn : n ≤ 10000000) (q0 : 1 ≤ q) (q1 : q ≤ 100000000) (h : w.ownsRow B 9 1 (.slice (some ⟨g, 0, none⟩) n cap) n xs) (hm : MkS q n xs) :
    Calls Try.prog 45 #[.slice (some ⟨g, 0, none⟩) n cap, .int .i64 q] w fun e w' => e = .returned (.int .i64 (q + n)) ∧ Below w.heap.size w w' := by
  have h' := hide h
  have hm' := hide hm
  clear h hm
  go_enter Try.func45, Try.ntmps45
  go_wp2
  go_loopw [1, 5] (fun s t wr => ∃ k : Nat, k ≤ n ∧ t = .int .i64 k ∧ s = .int .i64 (q + k) ∧ Hid (Below w.heap.size w wr)) (fun _ t _ => n - (intOf t).toNat)
  case atStart => exact ⟨0, by omega, rfl, by simp, hide (Below.refl _ _)⟩
  case round =>
    obtain ⟨k, hk, rfl, rfl, hb⟩ := hrel
    by_cases hlt : k < n
    · have hy := ownsRow_below (unhide h') (unhide hb)
      obtain ⟨v0, c0, f0, hv0, hl0⟩ := own_at (i := k) hy (by omega)
      rw [unhide hm' k hlt] at hv0
      cases hv0
      have hall := hide (show wr.cell? ⟨g, k, none⟩ = some (.string (mkT (q + k))) ∧ Below w.heap.size w wr from ⟨c0, unhide hb⟩)
      have hmt := hide (fun w => mtext_any (q + k) w (by omega) (by omega))
      have hww : IntKind.i64.wrap (q + k) = q + k := by rw [IntKind.wrap_i64]; omega
      generalize mkT (q + k) = M at *
      clear hy f0 hl0 hb
      go_wp2_with fail
      go_region_held3 (fun w' => w'.cell? ⟨g, k, none⟩ = some (.string M) ∧ Below w.heap.size w w')
        (first | (refine keep1 ?_ hb; assumption) | (exact keep1d (unhide hall)))
        ((go_at_call 70; refine (unhide hmt _).mono ?_; rintro e w1 ⟨rfl, hb⟩))
      go_wp2
      go_roundw
      case rel => exact ⟨k + 1, by omega, by go_num, by go_num, by rename_i hH; exact hide hH.2⟩
      case measure => simp [intOf]; omega
    · have hke : k = n := by omega
      go_wp2
      go_ret
      exact ⟨ret_int (by omega), unhide hb⟩

end Go.Proofs.Ytpdnceeniokemaa
