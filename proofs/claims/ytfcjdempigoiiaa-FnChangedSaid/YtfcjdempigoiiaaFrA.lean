/-
  Contracts of FrameAt and Joined, the model's and the program's; nothing that was there is written.
-/
import Derived.Test.YtfcjdempigoiiaaJn2
import Derived.Test.YtfcjdempigoiiaaPt2
namespace Go.Proofs.Ytfcjdempigoiiaa
open Go.RowKit
set_option linter.unusedVariables false
set_option linter.unusedSimpArgs false

/-- a list as Joined answers it -/
def joinOf (l : List Kl) : List Kl := if TOk l then join l else []
theorem joinOf_len (l : List Kl) : (joinOf l).length ≤ 300 := by
  unfold joinOf
  split
  · rename_i h; exact Nat.le_trans (len_join l) h.1
  · simp
def JnR (w w' : World) (L : List Kl) (e : Ending) : Prop := ∃ g c, e = .returned (.slice (some ⟨g, 0, none⟩) L.length c) ∧ w.heap.size ≤ g ∧ Own w' w.heap.size g L.length c L ∧ Below w.heap.size w w'
theorem jnR_none {w wx : World} {L : List Kl} (hr : L = []) (hb : Below w.heap.size w wx) : JnR w (wx.alloc (.cells #[] 63)) L (.returned (.slice (some ⟨wx.heap.size, 0, none⟩) 0 0)) := by
  subst hr
  exact ⟨wx.heap.size, 0, rfl, hb.size, own_lit0 wx hb.size, hb.alloc hb.size _⟩

set_option maxHeartbeats 800000 in
theorem ijoined_any (a : Option Addr) (cap : Nat) (l : List Kl) (w : World) (hl : l.length ≤ maxLen) (hk : Kls w a l) :
    Calls Try.prog 12 #[.slice a l.length cap] w fun e w' => JnR w w' (joinOf l) e := by
  have hk' := hide hk
  clear hk
  obtain ⟨L, hL⟩ : ∃ L, L = joinOf l := ⟨_, rfl⟩
  rw [← hL]
  by_cases h : TOk l
  · have h' := hide h
    have hJ := hide (show L = join l by rw [hL]; exact if_pos h)
    clear h hL
    go_enter Try.func12, Try.ntmps12
    go_wp2_with fail
    refine (opened_ok a cap l _ (unhide h') (unhide hk')).mono ?_
    rintro e w1 ⟨rfl, hb⟩
    have hA := hide (hb.alloc hb.size (.cells #[.slice a l.length cap, .int .i64 (clen l)] 49))
    have K1 := hide (((unhide hk').below hb).below ((Below.refl _ _).alloc (Nat.le_refl _) (.cells #[.slice a l.length cap, .int .i64 (clen l)] 49)))
    clear hb
    go_wp2_with fail
    refine (ijoin_any a cap l _ (by have := (unhide h').1; omega) (unhide h').2.1 (unhide K1)).mono ?_
    rintro e w2 ⟨g, c, rfl, q, n, k⟩
    rw [← unhide hJ] at n ⊢
    have hz := (unhide hA).size
    have hF := hide (show JnR w w2 L (.returned (.slice (some ⟨g, 0, none⟩) L.length c)) from ⟨g, c, rfl, Nat.le_trans hz q, own_mono n hz, (unhide hA).trans (k.mono hz)⟩)
    clear n k q hz hA K1
    go_wp2
    go_ret
    exact unhide hF
  · have h' := hide h
    have hJ := hide (show L = [] by rw [hL]; exact if_neg h)
    clear h hL
    go_enter Try.func12, Try.ntmps12
    go_wp2_with fail
    refine (opened_no a cap l _ hl (unhide h') (unhide hk')).mono ?_
    rintro e w1 ⟨rfl, hb⟩
    have hA := hide (hb.alloc hb.size (.cells #[.slice none 0 0, .int .i64 0] 49))
    clear hb
    go_wp2
    go_ret
    have := jnR_none (unhide hJ) (unhide hA)
    simpa using this

theorem seen_step {l : List Kl} {k : Nat} {c : Kl} (hx : l[k]? = some c) (i : Int) : seen (l.drop k) i = if i < c.2.2 then (if c.1 = 0 then (0, 0) else (c.1, c.2.1 + i)) else seen (l.drop (k + 1)) (i - c.2.2) := by
  have hk : k < l.length := (List.getElem?_eq_some_iff.1 hx).1
  have e : l.drop k = c :: l.drop (k + 1) := by
    rw [List.drop_eq_getElem_cons hk]
    have : l[k] = c := (List.getElem?_eq_some_iff.1 hx).2
    rw [this]
  rw [e]; rfl

end Go.Proofs.Ytfcjdempigoiiaa
