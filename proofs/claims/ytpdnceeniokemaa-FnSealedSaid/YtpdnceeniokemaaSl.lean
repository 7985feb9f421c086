/-
  Contracts of both Seals; nothing that was there is written.
-/
import Derived.Test.YtpdnceeniokemaaLv
import Derived.Test.YtpdnceeniokemaaAp
namespace Go.Proofs.Ytpdnceeniokemaa
open Go.RowKit
set_option linter.unusedVariables false
set_option linter.unusedSimpArgs false

theorem byt_at {l : List Int} {k : Nat} {z : Int} (h : Byt l) (hz : l[k]? = some z) : 0 ≤ z ∧ z ≤ 255 := h z (List.mem_of_getElem? hz)
set_option maxHeartbeats 1600000 in
theorem sseal_any (a : Option Addr) (cap : Nat) (l : List Int) (s : Int) (w : World) (hl : l.length ≤ maxLen) (hy : Byt l) (hk : Bys w a l) :
    Calls Try.prog 16 #[.slice a l.length cap, .int .i64 s] w (AnB w (sealOf l s)) := by
  unfold maxLen at hl
  have hk' := hide hk
  have hy' := hide hy
  have hz' := hide (anB_nil w)
  have hb0 : Below w.heap.size w (w.alloc (.cells #[] 5)) := (Below.refl _ _).alloc (Nat.le_refl _) _
  have ho0 := hide (ownB_lit0 w (Nat.le_refl w.heap.size))
  have hb0' := hide hb0
  clear hk hy hb0
  by_cases hS : 1 ≤ s ∧ s ≤ 1000000006
  rotate_left
  · rw [seal_no (fun h => hS h.1)]
    have hv := hide (fl_b false ⟨(fun h => by cases h), fun h => absurd h hS⟩)
    go_enter Try.func16, Try.ntmps16
    go_wp2_with fail
    refine (in_any s 1 1000000006 false _ (unhide hv)).mono ?_
    rintro e w1 ⟨rfl, hw0⟩
    have hw1 := hw0.symm
    subst hw1
    go_wp2
    go_ret
    exact unhide hz'
  have hv := hide (fl_b true ⟨fun _ => hS, fun _ => rfl⟩)
  by_cases hln : l.length ≤ 40000
  rotate_left
  · rw [seal_no (fun h => hln h.2)]
    have g0 : decide ((40000 : Int) < l.length) = true := by simp; omega
    go_enter Try.func16, Try.ntmps16
    go_wp2_with fail
    refine (in_any s 1 1000000006 true _ (unhide hv)).mono ?_
    rintro e w1 ⟨rfl, hw0⟩
    have hw1 := hw0.symm
    subst hw1
    go_wp2
    go_ret
    exact unhide hz'
  have g0 : decide ((40000 : Int) < l.length) = false := by simp; omega
  go_enter Try.func16, Try.ntmps16
  go_wp2_with fail
  refine (in_any s 1 1000000006 true _ (unhide hv)).mono ?_
  rintro e w1 ⟨rfl, hw0⟩
  have hw1 := hw0.symm
  subst hw1
  generalize w.alloc (.cells #[] 5) = W0 at *
  go_wp2
  go_loopw [5, 6, 7] (fun u q t wr => ∃ (k g cap : Nat), k ≤ l.length ∧ t = .int .i64 k ∧ u = .slice (some ⟨g, 0, none⟩) k cap ∧ q = .int .i64 (sk s k) ∧ w.heap.size ≤ g ∧ Hid (OwnB wr w.heap.size g k cap (sealB s (l.take k))) ∧ Hid (Below w.heap.size w wr)) (fun _ _ t _ => l.length - (intOf t).toNat)
  case atStart => exact ⟨0, w.heap.size, 0, by omega, rfl, rfl, rfl, Nat.le_refl _, ho0, hb0'⟩
  case round =>
    obtain ⟨k, g, cap, hk1, rfl, rfl, rfl, hg, ho, hB⟩ := hrel
    by_cases hlt : k < l.length
    · obtain ⟨b, o, x, rfl, hx, i1, c0⟩ := bys_at (unhide hk') (unhide hB) hlt
      have hz := byt_at (unhide hy') hx
      have hs := sealB_snoc s (l.take k) x
      rw [← take_snocI hx, show (l.take k).length = k by simp; omega] at hs
      have hs' := hide hs
      have hsk := sk_bd hS.1 hS.2 k
      have hsk1 := sk_bd hS.1 hS.2 (k + 1)
      have hsn : Hid (sk s (k + 1) = sk s k * 48271 % 1000000007) := hide rfl
      have g1 : decide ((k : Int) < l.length) = true := by simp; omega
      clear hs hx i1
      obtain ⟨N, hN⟩ : ∃ N, sk s k = N := ⟨_, rfl⟩
      rw [hN] at hsk ⊢
      rw [hN] at hsn
      clear hN
      rw [unhide hsn] at hsk1 hs'
      go_wp2_with (with_reducible refine wpList_bA wr rfl _ _ rfl w.heap.size g k cap (sealB s (l.take k)) (bits .xor .u8 x (N * 48271 % 1000000007 % 256)) rfl (unhide ho) rfl (by omega) (unhide hB).size ?_)
      intro g' cap' w' o1 b1 q1
      have hH := hide (show OwnB w' w.heap.size g' (k + 1) cap' (sealB s (l.take (k + 1))) by rw [unhide hs']; exact o1)
      have hB2 := hide ((unhide hB).trans b1)
      clear o1 b1 ho hB hs'
      go_wp2
      go_roundw
      case rel => exact ⟨k + 1, g', cap', by omega, by go_num, by go_num, by rw [unhide hsn], by omega, hH, hB2⟩
      case measure => simp [intOf]; omega
    · have hke : Hid (k = l.length) := hide (by omega)
      have g1 : decide ((k : Int) < l.length) = false := by simp; omega
      go_wp2
      go_ret
      refine AnB.mk (by rw [seal_yes ⟨hS, hln⟩, sealB_len, unhide hke]) hg (by rw [seal_yes ⟨hS, hln⟩]; have := unhide ho; rw [unhide hke, List.take_length] at this; rw [unhide hke]; exact this) (unhide hB)

set_option maxHeartbeats 1600000 in
theorem iseal_any (a : Option Addr) (cap : Nat) (l : List Int) (s : Int) (w : World) (hl : l.length ≤ maxLen) (hy : Byt l) (hk : Bys w a l) :
    Calls Try.prog 13 #[.slice a l.length cap, .int .i64 s] w (AnB w (sealOf l s)) := by
  unfold maxLen at hl
  obtain ⟨i0, hi, hz0, hz1, hz2⟩ := info_parts infoB
  have hk' := hide hk
  have hy' := hide hy
  have hz' := hide (anB_nil w)
  clear hk hy
  by_cases hS : 1 ≤ s ∧ s ≤ 1000000006
  rotate_left
  · rw [seal_no (fun h => hS h.1)]
    have hv := hide (fl_b false ⟨(fun h => by cases h), fun h => absurd h hS⟩)
    go_enter Try.func13, Try.ntmps13
    go_wp2_with fail
    refine (isec_any s false _ (unhide hv)).mono ?_
    rintro e w1 ⟨rfl, hw0⟩
    have hw1 := hw0.symm
    subst hw1
    go_wp2
    go_ret
    exact unhide hz'
  have hv := hide (fl_b true ⟨fun _ => hS, fun _ => rfl⟩)
  by_cases hln : l.length ≤ 40000
  rotate_left
  · rw [seal_no (fun h => hln h.2)]
    have g0 : decide ((40000 : Int) < l.length) = true := by simp; omega
    go_enter Try.func13, Try.ntmps13
    go_wp2_with fail
    refine (isec_any s true _ (unhide hv)).mono ?_
    rintro e w1 ⟨rfl, hw0⟩
    have hw1 := hw0.symm
    subst hw1
    go_wp2
    go_ret
    exact unhide hz'
  have g0 : decide ((40000 : Int) < l.length) = false := by simp; omega
  go_enter Try.func13, Try.ntmps13
  go_wp2_with fail
  refine (isec_any s true _ (unhide hv)).mono ?_
  rintro e w1 ⟨rfl, hw0⟩
  have hw1 := hw0.symm
  subst hw1
  go_wp2_with (refine wpList_make_own _ rfl _ _ 22 rfl w.heap.size 5 i0 (.int .u8 0) 1 Try.underlying22 hi hz0 hz1 .i64 .i64 _ l.length rfl rfl rfl ?b2 ?b3 (Nat.le_refl _) ?_)
  case b2 => rw [hz2]; omega
  case b3 => unfold maxLen; omega
  intro W0 hown hg0
  have ho0 := hide (show OwnB W0 w.heap.size w.heap.size 0 l.length [] from hown)
  have hb0' := hide (show Below w.heap.size w W0 from (Below.refl _ _).grown hg0 (Nat.le_refl _) (fun k hk => by cases hk))
  clear hown hg0
  go_wp2
  go_loopw [5, 6, 24] (fun u q t wr => ∃ (k g cap : Nat), k ≤ l.length ∧ t = .int .i64 k ∧ u = .slice (some ⟨g, 0, none⟩) k cap ∧ q = .int .i64 (sk s k) ∧ w.heap.size ≤ g ∧ Hid (OwnB wr w.heap.size g k cap (sealB s (l.take k))) ∧ Hid (Below w.heap.size w wr)) (fun _ _ t _ => l.length - (intOf t).toNat)
  case atStart => exact ⟨0, w.heap.size, l.length, by omega, rfl, rfl, rfl, Nat.le_refl _, ho0, hb0'⟩
  case round =>
    obtain ⟨k, g, cap, hk1, rfl, rfl, rfl, hg, ho, hB⟩ := hrel
    by_cases hlt : k < l.length
    · obtain ⟨b, o, x, rfl, hx, i1, c0⟩ := bys_at (unhide hk') (unhide hB) hlt
      have hz := byt_at (unhide hy') hx
      have hs := sealB_snoc s (l.take k) x
      rw [← take_snocI hx, show (l.take k).length = k by simp; omega] at hs
      have hs' := hide hs
      have hsk := sk_bd hS.1 hS.2 k
      have hsk1 := sk_bd hS.1 hS.2 (k + 1)
      have hsn : Hid (sk s (k + 1) = sk s k * 48271 % 1000000007) := hide rfl
      have g1 : decide ((k : Int) < l.length) = true := by simp; omega
      clear hs hx i1
      obtain ⟨N, hN⟩ : ∃ N, sk s k = N := ⟨_, rfl⟩
      rw [hN] at hsk ⊢
      rw [hN] at hsn
      clear hN
      rw [unhide hsn] at hsk1 hs'
      go_wp2_with (with_reducible refine wpList_bA wr rfl _ _ rfl w.heap.size g k cap (sealB s (l.take k)) (bits .xor .u8 x (N * 48271 % 1000000007 % 256)) rfl (unhide ho) rfl (by omega) (unhide hB).size ?_)
      intro g' cap' w' o1 b1 q1
      have hH := hide (show OwnB w' w.heap.size g' (k + 1) cap' (sealB s (l.take (k + 1))) by rw [unhide hs']; exact o1)
      have hB2 := hide ((unhide hB).trans b1)
      clear o1 b1 ho hB hs'
      go_wp2
      go_roundw
      case rel => exact ⟨k + 1, g', cap', by omega, by go_num, by go_num, by rw [unhide hsn], by omega, hH, hB2⟩
      case measure => simp [intOf]; omega
    · have hke : Hid (k = l.length) := hide (by omega)
      have g1 : decide ((k : Int) < l.length) = false := by simp; omega
      go_wp2
      go_ret
      refine AnB.mk (by rw [seal_yes ⟨hS, hln⟩, sealB_len, unhide hke]) hg (by rw [seal_yes ⟨hS, hln⟩]; have := unhide ho; rw [unhide hke, List.take_length] at this; rw [unhide hke]; exact this) (unhide hB)

end Go.Proofs.Ytpdnceeniokemaa
