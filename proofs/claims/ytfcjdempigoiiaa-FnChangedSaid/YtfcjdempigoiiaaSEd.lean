/-
  Contracts of the model's edits: what it answers of a list of clips, and of what is put between two parts of a track; answers are new memory, nothing that was there is written.
-/
import Derived.Test.YtfcjdempigoiiaaApp
namespace Go.Proofs.Ytfcjdempigoiiaa
open Go.RowKit
set_option linter.unusedVariables false
set_option linter.unusedSimpArgs false

/-- an edit's answer in memory -/
def EdR (w w' : World) (r : Option (List Kl)) (e : Ending) : Prop :=
  ∃ g c, e = .returned (.tuple #[.slice (some ⟨g, 0, none⟩) (outL r).length c, .bool r.isSome]) ∧ w.heap.size ≤ g ∧ Own w' w.heap.size g (outL r).length c (outL r) ∧ Below w.heap.size w w'
theorem edR_none {w wx : World} {r : Option (List Kl)} (hr : r = none) (hb : Below w.heap.size w wx) : EdR w (wx.alloc (.cells #[] 63)) r (.returned (.tuple #[.slice (some ⟨wx.heap.size, 0, none⟩) 0 0, .bool false])) := by
  subst hr
  exact ⟨wx.heap.size, 0, rfl, hb.size, own_lit0 wx hb.size, hb.alloc hb.size _⟩
theorem edR_from {w w1 w2 : World} {r : Option (List Kl)} {e : Ending} (h : EdR w1 w2 r e) (hb : Below w.heap.size w w1) : EdR w w2 r e := by
  obtain ⟨g, c, he, h1, h2, h3⟩ := h
  have := hb.size
  exact ⟨g, c, he, by omega, own_mono h2 (by omega), hb.trans (h3.mono (by omega))⟩

set_option maxHeartbeats 1600000 in
theorem sedit_any (a : Option Addr) (cap : Nat) (l : List Kl) (w : World) (hl : l.length ≤ 100000) (hk : Kls w a l) :
    Calls Try.prog 47 #[.slice a l.length cap] w fun e w' => EdR w w' (edit l) e := by
  have hk' := hide hk
  clear hk
  go_enter Try.func47, Try.ntmps47
  go_wp2
  go_loopw [4] (fun t wr => ∃ k : Nat, k ≤ l.length ∧ t = .int .i64 k ∧ Hid (AOk (l.take k)) ∧ Hid (Below w.heap.size w wr)) (fun t _ => l.length - (intOf t).toNat)
  case atStart => exact ⟨0, by omega, rfl, hide (by simp; exact AOk.nil), hide (Below.refl _ _)⟩
  case round =>
    obtain ⟨k, hk, rfl, hA, hw⟩ := hrel
    by_cases hlt : k < l.length
    · obtain ⟨b, o, s, i, n, rfl, hx, c0, c1, c2⟩ := kls_at (unhide hk') (unhide hw) hlt
      have hx' := hide hx
      clear hx
      by_cases hc : COk (s, i, n)
      · have hc' := hide hc
        clear hc
        go_wp2_with fail
        refine (sclip_any s i n true _ (by simpa using unhide hc')).mono ?_
        rintro e w1 ⟨rfl, hb⟩
        have hw1 := hide (laterB (unhide hw) hb)
        clear hb hw c0 c1 c2
        go_wp2
        go_roundw
        case rel => exact ⟨k + 1, by omega, by go_num, hide (aok_take (unhide hA) (unhide hx') (unhide hc')), hw1⟩
        case measure => simp [intOf]; omega
      · have hc2 := hide (show decide (COk (s, i, n)) = false from decide_eq_false hc)
        have he := hide (edit_no (fun h => hc (h _ (List.mem_of_getElem? (unhide hx')))))
        clear hc
        go_wp2_with fail
        refine (sclip_any s i n false _ (unhide hc2)).mono ?_
        rintro e w1 ⟨rfl, hb⟩
        go_wp2
        exact bodyPost_ret (v := .tuple #[.slice (some ⟨w1.heap.size, 0, none⟩) 0 0, .bool false]) (by simp [results, Try.results47, go_sem]) rfl (edR_none (unhide he) (laterB (unhide hw) hb))
    · have hke : k = l.length := by omega
      have hAl := hide (show AOk l by have := unhide hA; rw [hke, List.take_length] at this; exact this)
      clear hA
      go_wp2_with fail
      refine (sjoin_any a cap l _ hl (unhide hAl) ((unhide hk').below (unhide hw))).mono ?_
      rintro e w1 ⟨g, c, rfl, q1, n1, k1⟩
      have own1 := hide n1
      have hw1 := hide (laterB (unhide hw) k1)
      have hg1 : w.heap.size ≤ g := by have := (unhide hw).size; omega
      have hjl := len_join l
      have hjl' := hide hjl
      clear n1 k1 q1 hw
      by_cases hT : TOk (join l)
      · have hT' := hide hT
        have hd := hide (decide_eq_true hT)
        clear hT hjl
        go_wp2_with fail
        refine (strack_any (some ⟨g, 0, none⟩) c (join l) true _ (by have := unhide hjl'; unfold maxLen; omega) (kls_own (unhide own1)) (unhide hd)).mono ?_
        rintro e w2 ⟨rfl, k2⟩
        have he := hide (edit_yes (unhide hAl) (unhide hT'))
        go_wp2
        refine bodyPost_ret (v := .tuple #[.slice (some ⟨g, 0, none⟩) (join l).length c, .bool true]) (by simp [results, Try.results47, go_sem]) rfl ?_
        rw [unhide he]
        exact ⟨g, c, rfl, hg1, ownsRow_below (own_up (unhide own1) hg1) k2, laterB (unhide hw1) k2⟩
      · have hT' := hide hT
        have hd := hide (decide_eq_false hT)
        clear hT hjl
        go_wp2_with fail
        refine (strack_any (some ⟨g, 0, none⟩) c (join l) false _ (by have := unhide hjl'; unfold maxLen; omega) (kls_own (unhide own1)) (unhide hd)).mono ?_
        rintro e w2 ⟨rfl, k2⟩
        go_wp2
        exact bodyPost_ret (v := .tuple #[.slice (some ⟨w2.heap.size, 0, none⟩) 0 0, .bool false]) (by simp [results, Try.results47, go_sem]) rfl (edR_none (edit_no2 (unhide hT')) (laterB (unhide hw1) k2))

end Go.Proofs.Ytfcjdempigoiiaa
