/-
  A copy of a list of boxes: each of its byte lists lies somewhere; as tos_any besides.
-/
import Derived.Test.YtdiamcejpjopgaaCopy2
namespace Go.Proofs.Ytdiamcejpjopgaa
open Go.RowKit
set_option linter.unusedVariables false
set_option linter.unusedSimpArgs false

set_option maxHeartbeats 800000 in
theorem tos2_any (a : Option Addr) (cap : Nat) (A : Nat → Option Addr × Nat) (l : List Bx) (w : World) (hl : l.length ≤ 1048576) (hs : Small 1048576 l) (hr : Bxs false 0 w.heap.size w a A l) :
    Calls Try.prog 23 #[.slice a l.length cap] w fun e w' => ∃ g A', e = .returned (.slice (some ⟨g, 0, none⟩) l.length l.length) ∧ w.heap.size ≤ g ∧ Bxs true w.heap.size w'.heap.size w' (some ⟨g, 0, none⟩) A' l ∧ (Dist A' l.length ∧ ∀ i, i < l.length → ∃ y, (A' i).1 = some y) ∧ Below w.heap.size w w' := by
  obtain ⟨i0, hi, hz0, hz1, hz2⟩ := info_parts info38
  have hr' := hide hr
  have hs' := hide hs
  clear hr hs
  go_enter Try.func23, Try.ntmps23
  go_wp2_with (refine wpList_make_full _ rfl _ _ 24 rfl w.heap.size 38 i0 _ 3 Try.underlying24 hi hz0 hz1 .i64 .i64 _ _ l.length rfl rfl rfl rfl ?b2 ?b3 (Nat.le_refl _) ?_)
  case b2 => rw [hz2]; omega
  case b3 => unfold maxLen; omega
  intro w1 hown hg
  have hb1 : Below w.heap.size w w1 := (Below.refl _ _).grown hg (Nat.le_refl _) (fun k hk => by cases hk)
  have hsp := spare_own hown
  have hgl := own_lt hown
  clear hown hg
  go_wp2
  go_loopw [4] (fun t wr => ∃ (k : Nat) (A' : Nat → Option Addr × Nat), k ≤ l.length ∧ t = .int .i64 k ∧ Bxs true w.heap.size wr.heap.size wr (some ⟨w.heap.size, 0, none⟩) A' (l.take k) ∧ (Dist A' k ∧ ∀ i, i < k → ∃ y, (A' i).1 = some y) ∧ (∀ i x, i < k → (A' i).1 = some x → x.block < wr.heap.size) ∧ Spare wr w.heap.size k l.length ∧ Below w.heap.size w wr ∧ w.heap.size < wr.heap.size) (fun t _ => l.length - (intOf t).toNat)
  case atStart => exact ⟨0, fun _ => (none, 0), by omega, rfl, by simpa using Bxs.nil, ⟨fun i j x y _ h => by omega, fun i h => by omega⟩, fun i x h => by omega, hsp, hb1, hgl⟩
  case round =>
    clear hsp hb1 hgl
    obtain ⟨k, A', hk, rfl, hbx, hd, hlt', hsp, hb, hgl⟩ := hrel
    by_cases hlt : k < l.length
    · obtain ⟨x, hx⟩ : ∃ x, l[k]? = some x := ⟨l[k], List.getElem?_eq_getElem hlt⟩
      obtain ⟨b, o, rfl, h1, h2, c0, c1, c2, hrow, k1, d0, d1, z1, z2, _⟩ := unhide hr' k x hx
      have hxs := unhide hs' x (List.mem_of_getElem? hx)
      have hxl : x.z.length ≤ 1048576 := by omega
      have w0 : wr.cell? ⟨b, o + k * 3, none⟩ = some (.string x.k) := by rw [(bcell hb).1 _ _ h2]; exact c0
      have w1 : wr.cell? ⟨b, o + k * 3 + 1, none⟩ = some (.int .i64 x.d) := by rw [(bcell hb).1 _ _ h2]; exact c1
      have w2 : wr.cell? ⟨b, o + k * 3 + 2, none⟩ = some (.slice (A k).1 x.z.length (A k).2) := by rw [(bcell hb).1 _ _ h2]; exact c2
      have hrow' := hide (hrow.below hb (Nat.le_refl _) |>.mono (Nat.le_refl _) hb.size)
      have hbx' := hide hbx
      have hd' := hide hd
      have hL' := hide hlt'
      have hsp' := hide hsp
      have hb' := hide hb
      have hx' := hide hx
      clear hbx hd hlt' hsp hb hx hrow c0 c1 c2 hxs
      have k1' := hide k1
      have z1' := hide z1
      have z2' := hide z2
      clear k1 z1 z2
      go_wp2_with fail
      refine (tox_any x.k x.d _ _ x.z _ hxl (unhide hrow')).mono ?_
      rintro e w3 ⟨B, rfl, hB, hown, hb3⟩
      have hsp3 : Spare w3 w.heap.size k l.length := (unhide hsp').same (hb3.block _ hgl)
      obtain ⟨⟨v0, s0⟩, ⟨v1, s1⟩, ⟨v2, s2⟩⟩ := hsp3.1 k (Nat.le_refl _) hlt
      have f0 := hsp3.2 (k * 3)
      have f1 := hsp3.2 (k * 3 + 1)
      have f2 := hsp3.2 (k * 3 + 2)
      have hsp3' := hide hsp3
      have hb3' := hide hb3
      have hown' := hide hown
      clear hsp3 hb3 hown
      go_wp2
      go_roundw
      case rel =>
        have hb3 := unhide hb3'
        have hown := unhide hown'
        have hsz : wr.heap.size ≤ w3.heap.size := hb3.size
        have hbx3 : Bxs true w.heap.size w3.heap.size w3 (some ⟨w.heap.size, 0, none⟩) A' (l.take k) := ((unhide hbx').below hb3 (Nat.le_refl _)).mono (Nat.le_refl _) hsz
        have hB2 : B < w3.heap.size := own_lt hown
        have hrow3 : Row true w.heap.size w3.heap.size w3 (some ⟨B, 0, none⟩) x.z := (row_of_own hown (unhide hrow').bd).mono (by omega) (by omega)
        have hres := put3_bxs (unhide hx') hbx3 (unhide hsp3') hlt (Nat.le_refl _) (by omega) hrow3 (fun y hy => by injection hy with hy; subst hy; simp; omega) (unhide k1') d0 d1 (Nat.le_refl x.z.length) (by unfold maxLen; omega)
        have hpz : (put3 w3 w.heap.size k (.string x.k) (.int .i64 x.d) (.slice (some ⟨B, 0, none⟩) x.z.length x.z.length)).heap.size = w3.heap.size := by simp [put3]
        refine ⟨k + 1, upd A' k (some ⟨B, 0, none⟩, x.z.length), by omega, by go_num, ?_, ?_, ?_, put3_spare (unhide hsp3'), ?_, ?_⟩
        · show Bxs true w.heap.size (put3 w3 w.heap.size k (.string x.k) (.int .i64 x.d) (.slice (some ⟨B, 0, none⟩) x.z.length x.z.length)).heap.size _ _ _ _
          rw [hpz]; exact hres
        · refine ⟨?_, fun i hi => ?_⟩
          rotate_left
          · by_cases hik : i = k
            · exact ⟨⟨B, 0, none⟩, by rw [show upd A' k (some ⟨B, 0, none⟩, x.z.length) i = (some ⟨B, 0, none⟩, x.z.length) from if_pos hik]⟩
            · rw [show upd A' k (some ⟨B, 0, none⟩, x.z.length) i = A' i from if_neg hik]
              exact (unhide hd').2 i (by omega)
          intro i j p q hij hj hp hq
          by_cases hjk : j = k
          · have e1 : upd A' k (some ⟨B, 0, none⟩, x.z.length) i = A' i := if_neg (by omega)
            have e2 : upd A' k (some ⟨B, 0, none⟩, x.z.length) j = (some ⟨B, 0, none⟩, x.z.length) := if_pos hjk
            rw [e1] at hp; rw [e2] at hq
            have := unhide hL' i p (by omega) hp
            injection hq with hq; subst hq; simp; omega
          · have e1 : upd A' k (some ⟨B, 0, none⟩, x.z.length) i = A' i := if_neg (by omega)
            have e2 : upd A' k (some ⟨B, 0, none⟩, x.z.length) j = A' j := if_neg hjk
            rw [e1] at hp; rw [e2] at hq
            exact (unhide hd').1 i j p q hij (by omega) hp hq
        · intro i p hi hp
          show p.block < (put3 w3 w.heap.size k (.string x.k) (.int .i64 x.d) (.slice (some ⟨B, 0, none⟩) x.z.length x.z.length)).heap.size
          rw [hpz]
          by_cases hik : i = k
          · have e2 : upd A' k (some ⟨B, 0, none⟩, x.z.length) i = (some ⟨B, 0, none⟩, x.z.length) := if_pos hik
            rw [e2] at hp; injection hp with hp; subst hp; exact hB2
          · have e1 : upd A' k (some ⟨B, 0, none⟩, x.z.length) i = A' i := if_neg hik
            rw [e1] at hp
            have := unhide hL' i p (by omega) hp
            omega
        · exact (((((unhide hb').trans (hb3.mono (by omega)))).setCell (by simp) _).setCell (by simp) _).setCell (by simp) _
        · show w.heap.size < (put3 w3 w.heap.size k (.string x.k) (.int .i64 x.d) (.slice (some ⟨B, 0, none⟩) x.z.length x.z.length)).heap.size
          rw [hpz]; omega
      case measure => simp [intOf]; omega
    · have hke : k = l.length := by omega
      have hbx' := hide hbx
      have hd' := hide hd
      have hL' := hide hlt'
      have hsp' := hide hsp
      clear hbx hd hlt' hsp
      go_wp2
      go_ret
      refine ⟨w.heap.size, A', rfl, Nat.le_refl _, ?_, ?_, hb⟩
      · have := unhide hbx'; rw [hke] at this; simpa using this
      · have := unhide hd'; rw [hke] at this; exact this
end Go.Proofs.Ytdiamcejpjopgaa
