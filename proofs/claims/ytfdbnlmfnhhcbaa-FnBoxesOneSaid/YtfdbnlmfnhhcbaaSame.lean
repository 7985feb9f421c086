/-
  Contracts of the law's own functions on boxes and numbers: like lists of boxes are the same; a number is picked below its bound.
-/
import Derived.Test.YtfdbnlmfnhhcbaaIShow3
namespace Go.Proofs.Ytfdbnlmfnhhcbaa
open Go.RowKit
set_option linter.unusedVariables false
set_option linter.unusedSimpArgs false

theorem cv_row {Hh : Nat} {w : World} {ad : Option Addr} {zs : List Int} (h : Row false 0 Hh w ad zs) (c : Nat) : (convert 22 9 (.slice ad zs.length c)).run Try.prog w = .ok (.string (strOfNums zs)) w := by
  cases ad with
  | none =>
    have := row_none h
    subst this
    exact run_convert_bytes_nil w 22 5 Try.underlying22 Try.underlying5 _ _ 9 Try.underlying9
  | some y =>
    have hl : (loadCells y zs.length).run Try.prog w = .ok (zs.map (Value.int .u8)).toArray w := by
      have := run_loadCells_list (P := Try.prog) w y (zs.map (Value.int .u8)) (fun j v hj => by
        rw [List.getElem?_map] at hj
        obtain ⟨z, hz, rfl⟩ := Option.map_eq_some_iff.1 hj
        obtain ⟨b, o, e, _, _, hc, _⟩ := h j z hz
        injection e with e
        subst e
        rw [Addr.add_lit]; exact hc)
      simpa using this
    rw [run_convert_bytes_string w 22 9 5 _ _ c Try.underlying22 Try.underlying5 Try.underlying9, run_bytesToString w _ _ c zs hl, foldl_push_bytes]
    simp [strOfNums, ByteArray.empty, ByteArray.emptyWithCapacity]
    rfl

set_option maxHeartbeats 1600000 in
theorem same_any (a b : Option Addr) (ca cb : Nat) (A B : Nat → Option Addr × Nat) (l : List Bx) (w : World) (hl : l.length ≤ 1048576) (ha : Bxs false 0 w.heap.size w a A l) (hb : Bxs false 0 w.heap.size w b B l) :
    Calls Try.prog 9 #[.slice a l.length ca, .slice b l.length cb] w fun e w' => e = .returned (.bool true) ∧ ∃ n, w' = w.drewN n := by
  have ha' := hide ha
  have hb' := hide hb
  clear ha hb
  have hne : ((l.length : Int) != l.length) = false := by simp
  go_enter Try.func9, Try.ntmps9
  go_wp2
  go_loopw [5] (fun t wr => ∃ k n : Nat, k ≤ l.length ∧ t = .int .i64 k ∧ wr = w.drewN n) (fun t _ => l.length - (intOf t).toNat)
  case atStart => exact ⟨0, 0, by omega, rfl, rfl⟩
  case round =>
    obtain ⟨k, n, hk, rfl, rfl⟩ := hrel
    by_cases hlt : k < l.length
    · obtain ⟨x, hx⟩ : ∃ x, l[k]? = some x := ⟨l[k], List.getElem?_eq_getElem hlt⟩
      obtain ⟨b1, o1, rfl, _, i1, c0, c1, c2, r1, _, _, _, y1, y2, _⟩ := unhide ha' k x hx
      obtain ⟨b2, o2, rfl, _, i2, e0, e1, e2, r2, _, _, _, y3, y4, _⟩ := unhide hb' k x hx
      have v1 : ∀ nq, (convert 22 9 (.slice (A k).1 x.z.length (A k).2)).run Try.prog (w.drewN nq) = .ok (.string (strOfNums x.z)) (w.drewN nq) := fun nq => cv_row (show Row false 0 w.heap.size (w.drewN nq) _ _ from r1) _
      have v2 : ∀ nq, (convert 22 9 (.slice (B k).1 x.z.length (B k).2)).run Try.prog (w.drewN nq) = .ok (.string (strOfNums x.z)) (w.drewN nq) := fun nq => cv_row (show Row false 0 w.heap.size (w.drewN nq) _ _ from r2) _
      have hdd : (x.d != x.d) = false := by simp
      have hkk : (x.k.toList != x.k.toList) = false := by simp
      have hss : ((strOfNums x.z).toList != (strOfNums x.z).toList) = false := by simp
      generalize (strOfNums x.z) = S at *
      clear hx r1 r2 y1 y2 y3 y4
      go_wp2
      go_quiet (fail)
      go_wp2
      go_roundw
      case rel => exact ⟨k + 1, _, by omega, by go_num, rfl⟩
      case measure => simp [intOf]; omega
    · go_wp2
      go_ret
      exact ⟨rfl, n, rfl⟩

end Go.Proofs.Ytfdbnlmfnhhcbaa
