/-
  The model's words of a line: their contract.
-/
import Derived.Test.YtfhbmfndjbdhcaaGreatDoorLrQ
import Derived.Test.YtfhbmfndjbdhcaaGreatDoorSTime
import Derived.Test.YtfhbmfndjbdhcaaGreatDoorMem
import Derived.Laws.Concat
import Derived.Lib.AppendStr
import Derived.Lib.OthersKept
import Derived.Lib.SmallJoins
namespace Go.Proofs.YtfhbmfndjbdhcaaGreatDoor
open Go.RowKit
set_option linter.unusedVariables false
set_option linter.unusedSimpArgs false

theorem infoS : (Tryz.prog.info? 9).map (fun i => (i.zero, i.size, i.bytes)) = some (some (.string ⟨#[]⟩), 1, 16) := by kernel_rfl
abbrev sW (l : List UInt8) : Value := .string ⟨l.toArray⟩
theorem toList_mk (l : List UInt8) : (⟨l.toArray⟩ : ByteArray).toList = l := by rw [Lib.toList_data]
theorem idx_str {s : ByteArray} {l : List UInt8} {k : Nat} {c : UInt8} (hl : s.data.toList = l) (h : l[k]? = some c) (w : World) : (Instr.index 9 (.string s) (.int .i64 (k : Int))).run Tryz.prog w = .ok (.int .u8 (c.toNat : Int)) w := by
  have hk : k < l.length := (List.getElem?_eq_some_iff.1 h).1
  have hsz : s.size = l.length := by rw [Lib.size_eq, hl]
  rw [run_index_string w 9 s .i64 k Tryz.underlying9, dif_pos ⟨by omega, by omega⟩]
  have e : s[(k : Int).toNat]'(by omega) = c := by
    have h2 : s.data.toList[k]? = some c := by rw [hl]; exact h
    simp only [Int.toNat_natCast]
    have h3 : s.data[k]? = some c := by rw [← h2]; simp
    have h4 := (Array.getElem?_eq_some_iff.1 h3).2
    exact h4
  rw [e]
theorem ownS_app {w : World} {B : Nat} {v : Value} {L : List (List UInt8)} {x : List UInt8} (h : w.ownsRow B 9 1 v (L.length + 1) (L.map sW ++ [sW x])) : w.ownsRow B 9 1 v (L ++ [x]).length ((L ++ [x]).map sW) := by
  rw [List.length_append, List.map_append]; exact h
theorem below_row9 {B : Nat} {w w1 w2 : World} {v : Value} {o : Obj} {bs : List Value} {k : Nat} (hB : B ≤ w.heap.size) (hb : Below B w w1) (hown : w1.ownsRow B 9 1 v k bs) (hg : (w1.alloc o).grownBy w2 v.ownBlock) : Below B w w2 :=
  (hb.alloc (Nat.le_trans hB hb.size) o).grown hg (by have := hb.size; simp; omega) (fun q hq => (hown.lt q hq).1)
theorem ext_str {s : ByteArray} {l : List UInt8} {g k : Nat} (hl : s.data.toList = l) (hg : g ≤ k) : s.extract g k = ⟨((l.take k).drop g).toArray⟩ := by
  rw [Lib.extract_eq, hl, List.take_drop, show g + (k - g) = k by omega]
theorem ownS_lit0 (w : World) {B : Nat} (hB : B ≤ w.heap.size) : (w.alloc (.cells #[] 9)).ownsRow B 9 1 (.slice (some ⟨w.heap.size, 0, none⟩) 0 0) 0 [] := by
  have h := World.ownsRow_lit (base := B) (e := 9) (size := 1) w #[] 0 hB (by unfold maxLen; omega) rfl
  exact h

set_option maxRecDepth 100000 in
set_option maxHeartbeats 1000000 in
theorem swords_any (s : ByteArray) (w : World) (hs : s.size ≤ 20000) :
    Calls Tryz.prog 59 #[.string s] w fun e w' => ∃ v, e = .returned v ∧ w'.ownsRow w.heap.size 9 1 v (wordsL s.data.toList).length ((wordsL s.data.toList).map sW) ∧ Below w.heap.size w w' := by
  obtain ⟨i0, hi, hz0, hz1, hz2⟩ := info_parts infoS
  obtain ⟨l, hl⟩ : ∃ l, s.data.toList = l := ⟨_, rfl⟩
  have hsz : s.size = l.length := by rw [Lib.size_eq, hl]
  have hl' := hide hl
  rw [hl]
  clear hl
  have hB0 := hide (ownS_lit0 w (Nat.le_refl _))
  have hb0 := hide ((Below.refl w.heap.size w).alloc (Nat.le_refl _) (.cells #[] 9))
  go_enter Tryz.func59, Tryz.ntmps59
  go_wp2_with fail
  go_loopw [3, 4, 5] (fun o f i wr => ∃ k g : Nat, k ≤ l.length + 1 ∧ i = .int .i64 k ∧ f = .int .i64 g ∧ g ≤ k ∧ Hid (k ≤ l.length → (stW (l.take k)).2 = (l.take k).drop g) ∧ Hid (wr.ownsRow w.heap.size 9 1 o (outW l k).length ((outW l k).map sW)) ∧ Hid (Below w.heap.size w wr)) (fun _ _ i _ => l.length + 1 - (intOf i).toNat)
  case atStart => exact ⟨0, 0, by omega, rfl, rfl, by omega, hide (fun _ => by simp [stW]), hide (by have := unhide hB0; simpa [outW, stW] using this), hb0⟩
  case round =>
    clear hB0 hb0
    obtain ⟨k, g, hk, rfl, rfl, hgk, hcur, hrow, hbel⟩ := hrel
    have hsb := (unhide hbel).size
    by_cases hend : k = l.length + 1
    · subst hend
      have hR := hide (show wr.ownsRow w.heap.size 9 1 u3 (wordsL l).length ((wordsL l).map sW) by rw [← outW_end]; exact unhide hrow)
      clear hrow hcur
      have hlt : decide ((((l.length + 1 : Nat) : Int)) ≤ (s.size : Int)) = false := by simp; omega
      go_wp2
      go_ret
      exact ⟨_, rfl, unhide hR, unhide hbel⟩
    have hk2 : k ≤ l.length := by omega
    have hle : decide ((k : Int) ≤ (s.size : Int)) = true := by simp; omega
    have hcu := (unhide hcur) hk2
    have hol := outW_len l k
    obtain ⟨X, hX⟩ : ∃ X, s.extract g k = X := ⟨_, rfl⟩
    have hXe : Hid ((.string X : Value) = sW (stW (l.take k)).2) := hide (by rw [← hX, ext_str (unhide hl') hgk, ← hcu])
    by_cases hlast : k = l.length
    · have heq : ((k : Int) == (s.size : Int)) = true := by simp; omega
      have hOut := hide (show outW l k ++ [(stW (l.take k)).2] = outW l (k + 1) by rw [outW_at hk2, hlast, outW_end, List.take_length]; rfl)
      have hge : ¬ k < l.length := by omega
      have hX2 : s.extract g l.length = X := by rw [← hlast]; exact hX
      clear hcur hcu hlast
      generalize hOL : outW l k = OL at *
      clear hOL
      go_wp2_with (at_builtin; refine wpList_append_own _ rfl _ _ 65 rfl w.heap.size 9 i0 (.string ⟨#[]⟩) 1 16 Tryz.underlying65 hi hz0 hz1 hz2 rfl (by decide) _ _ _ rfl ((unhide hrow).alloc _) ⟨wr.heap.size, 0, none⟩ 1 1 [.string X] rfl rfl ?c1 ?c2 ?c3 ?c4 ?c5 ?_)
      case c1 =>
        intro j u hj
        match j, hj with
        | 0, hj => simp at hj; subst hj; simp [Addr.add, hX2]
      case c2 => intro u hu; simp at hu; subst hu; rfl
      case c3 => unfold maxLen; omega
      case c4 => omega
      case c5 => simp; omega
      intro v8 w8 hown8 hgrow8 _
      have hb8 := hide (below_row9 (Nat.le_refl _) (unhide hbel) (unhide hrow) hgrow8)
      have hr8 := hide (ownS_app (x := (stW (l.take k)).2) (by rw [unhide hXe] at hown8; exact hown8))
      clear hown8 hgrow8 hrow hbel
      go_wp2
      go_roundw
      case rel => exact ⟨k + 1, k + 1, by omega, by go_num, by go_num, by omega, hide (fun h => by omega), hide (by rw [← unhide hOut]; exact unhide hr8), hb8⟩
      case measure => simp [intOf]; omega
    · have hlt2 : k < l.length := by omega
      have heq : ((k : Int) == (s.size : Int)) = false := by simp; omega
      obtain ⟨c, hc⟩ : ∃ c, l[k]? = some c := ⟨l[k], List.getElem?_eq_getElem hlt2⟩
      have hidx := fun w => idx_str (unhide hl') hc w
      have hst := stW_one hc
      by_cases h32 : c = 32
      · have hc32 : (((c.toNat : Nat) : Int) == 32) = true := by rw [h32]; rfl
        have hOut := hide (show outW l k ++ [(stW (l.take k)).2] = outW l (k + 1) by rw [outW_at hk2, outW_at (by omega), hst]; unfold stepW; rw [if_pos h32])
        have hnx := hide (show (stW (l.take (k + 1))).2 = (l.take (k + 1)).drop (k + 1) by rw [hst]; unfold stepW; rw [if_pos h32]; simp)
        clear hcur hcu hst hc h32
        generalize hOL : outW l k = OL at *
        clear hOL
        go_wp2_with (at_builtin; refine wpList_append_own _ rfl _ _ 65 rfl w.heap.size 9 i0 (.string ⟨#[]⟩) 1 16 Tryz.underlying65 hi hz0 hz1 hz2 rfl (by decide) _ _ _ rfl ((unhide hrow).alloc _) ⟨wr.heap.size, 0, none⟩ 1 1 [.string X] rfl rfl ?c1 ?c2 ?c3 ?c4 ?c5 ?_)
        case c1 =>
          intro j u hj
          match j, hj with
          | 0, hj => simp at hj; subst hj; simp [Addr.add]
        case c2 => intro u hu; simp at hu; subst hu; rfl
        case c3 => unfold maxLen; omega
        case c4 => omega
        case c5 => simp; omega
        intro v8 w8 hown8 hgrow8 _
        have hb8 := hide (below_row9 (Nat.le_refl _) (unhide hbel) (unhide hrow) hgrow8)
        have hr8 := hide (ownS_app (x := (stW (l.take k)).2) (by rw [unhide hXe] at hown8; exact hown8))
        clear hown8 hgrow8 hrow hbel
        go_wp2
        go_roundw
        case rel => exact ⟨k + 1, k + 1, by omega, by go_num, by go_num, by omega, hide (fun _ => unhide hnx), hide (by rw [← unhide hOut]; exact unhide hr8), hb8⟩
        case measure => simp [intOf]; omega
      · have hc32 : (((c.toNat : Nat) : Int) == 32) = false := by
          rw [beq_eq_false_iff_ne]
          intro e
          have e2 : c.toNat = 32 := by omega
          exact h32 (UInt8.toNat_inj.1 e2)
        have hOut := hide (show outW l k = outW l (k + 1) by rw [outW_at hk2, outW_at (by omega), hst]; unfold stepW; rw [if_neg h32])
        have hnx := hide (show (stW (l.take (k + 1))).2 = (l.take (k + 1)).drop g by rw [hst]; unfold stepW; rw [if_neg h32, drop_snoc hc hgk, hcu])
        clear hcur hcu hst hc h32 hX hXe
        go_wp2
        go_roundw
        case rel => exact ⟨k + 1, g, by omega, by go_num, rfl, by omega, hide (fun _ => unhide hnx), hide (by rw [← unhide hOut]; exact unhide hrow), hbel⟩
        case measure => simp [intOf]; omega

end Go.Proofs.YtfhbmfndjbdhcaaGreatDoor
