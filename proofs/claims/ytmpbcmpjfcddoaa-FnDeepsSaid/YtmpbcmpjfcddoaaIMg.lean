/-
  Contract of the program's Merge; the answer is new memory.
-/
import Derived.Test.YtmpbcmpjfcddoaaEls
namespace Go.Proofs.Ytmpbcmpjfcddoaa
open Go.RowKit
set_option linter.unusedVariables false
set_option linter.unusedSimpArgs false
namespace D

set_option maxHeartbeats 1600000 in
theorem imerge_any (B ga na ca gb nb cb : Nat) (l m : List Kl) (w : World) (hA : Own w B ga na ca l) (hB : Own w B gb nb cb m) (ha : na ≤ 100000000) (hb : nb ≤ 100000000) : Calls Try.prog 8 #[.slice (some ⟨ga, 0, none⟩) na ca, .slice (some ⟨gb, 0, none⟩) nb cb] w fun e w' => ∃ g c N, e = .returned (.slice (some ⟨g, 0, none⟩) N c) ∧ N = (mrg l m).length ∧ Own w' w.heap.size g N c (mrg l m) ∧ Below w.heap.size w w' := by
  have la : l.length = na := own_len hA
  have lb : m.length = nb := own_len hB
  have hw1 : IntKind.i64.wrap ((na : Int) + nb) = (na : Int) + nb := by rw [IntKind.wrap_i64]; omega
  have hm0 : Hid (okL l = false ∨ okL m = false ∨ 200 < na + nb → mrg l m = []) := hide (fun h => by
    unfold mrg
    rw [if_neg]
    rcases h with h | h | h
    · simp [h]
    · simp [h]
    · simp; omega)
  have hm1 : Hid (okL l = true → okL m = true → na + nb ≤ 200 → mrg l m = srt (l ++ m)) := hide (fun h1 h2 h3 => by
    unfold mrg
    rw [if_pos (by rw [h1, h2]; simp; omega)])
  have hO' := hide (And.intro hA (And.intro hB (And.intro la lb)))
  clear hA hB la lb
  generalize hx : okL l = x
  generalize hy : okL m = y
  have hx' := hide hx
  have hy' := hide hy
  clear hx hy
  have hnil : ∀ (w1 : World), Hid (Below w.heap.size w w1) → (mrg l m = []) → ∃ g c N, Ending.returned (.slice (some ⟨w1.heap.size, 0, none⟩) 0 0) = .returned (.slice (some ⟨g, 0, none⟩) N c) ∧ N = (mrg l m).length ∧ Own (w1.alloc (.cells #[] 32)) w.heap.size g N c (mrg l m) ∧ Below w.heap.size w (w1.alloc (.cells #[] 32)) := fun w1 h e => ⟨_, _, _, rfl, by rw [e]; rfl, by rw [e]; exact own_lit0 w1 (unhide h).size, (unhide h).alloc (unhide h).size _⟩
  have hnil' := hide hnil
  clear hnil
  cases x
  · go_enter Try.func8, Try.ntmps8
    go_wp2_with fail
    refine (ars_any B ga na ca l _ _ (unhide hO').1 ha (unhide hx')).mono ?_
    rintro e w1 ⟨rfl, h1⟩
    have h1' := hide h1
    clear h1
    go_wp2
    go_ret
    exact unhide hnil' _ h1' (unhide hm0 (Or.inl (unhide hx')))
  cases y
  · go_enter Try.func8, Try.ntmps8
    go_wp2_with fail
    refine (ars_any B ga na ca l _ _ (unhide hO').1 ha (unhide hx')).mono ?_
    rintro e w1 ⟨rfl, h1⟩
    have h1' := hide h1
    clear h1
    go_wp2_with fail
    refine (ars_any B gb nb cb m _ _ (ownsRow_below (unhide hO').2.1 (unhide h1')) hb (unhide hy')).mono ?_
    rintro e w2 ⟨rfl, h2⟩
    have h2' := hide (laterB (unhide h1') h2)
    clear h2 h1'
    go_wp2
    go_ret
    exact unhide hnil' _ h2' (unhide hm0 (Or.inr (Or.inl (unhide hy'))))
  by_cases h200 : na + nb ≤ 200
  rotate_left
  · have td : decide ((200 : Int) < na + nb) = true := by simp; omega
    have td' : decide (200 < na + nb) = true := by simp; omega
    go_enter Try.func8, Try.ntmps8
    go_wp2_with fail
    refine (ars_any B ga na ca l _ _ (unhide hO').1 ha (unhide hx')).mono ?_
    rintro e w1 ⟨rfl, h1⟩
    have h1' := hide h1
    clear h1
    go_wp2_with fail
    refine (ars_any B gb nb cb m _ _ (ownsRow_below (unhide hO').2.1 (unhide h1')) hb (unhide hy')).mono ?_
    rintro e w2 ⟨rfl, h2⟩
    have h2' := hide (laterB (unhide h1') h2)
    clear h2 h1'
    go_wp2
    go_ret
    exact unhide hnil' _ h2' (unhide hm0 (Or.inr (Or.inr (by omega))))
  have td : decide ((200 : Int) < na + nb) = false := by simp; omega
  have td' : decide (200 < na + nb) = false := by simp; omega
  have hmm : Hid (mrg l m = srt (l ++ m)) := hide (unhide hm1 (unhide hx') (unhide hy') h200)
  have hml : Hid ((mrg l m).length = na + nb) := hide (by rw [unhide hmm, srt_len, List.length_append]; have := unhide hO'; omega)
  go_enter Try.func8, Try.ntmps8
  go_wp2_with fail
  refine (ars_any B ga na ca l _ _ (unhide hO').1 ha (unhide hx')).mono ?_
  rintro e w1 ⟨rfl, h1⟩
  have h1' := hide h1
  clear h1
  go_wp2_with fail
  refine (ars_any B gb nb cb m _ _ (ownsRow_below (unhide hO').2.1 (unhide h1')) hb (unhide hy')).mono ?_
  rintro e w2 ⟨rfl, h2⟩
  have h2' := hide (laterB (unhide h1') h2)
  clear h2 h1'
  go_wp2_with fail
  refine (ind_any (some ⟨ga, 0, none⟩) (some ⟨gb, 0, none⟩) ca cb na nb _ l m _ (unhide hO').2.2.1 (unhide hO').2.2.2 rfl (by omega) (kls_own (ownsRow_below (unhide hO').1 (unhide h2'))) (kls_own (ownsRow_below (unhide hO').2.1 (unhide h2'))) (fun h => by cases h) (fun h => by cases h)).mono ?_
  rintro e w3 ⟨g, c, rfl, ho, hb3⟩
  have ho' := hide ho
  have h3' := hide (laterB (unhide h2') hb3)
  have s2 := (unhide h2').size
  clear ho hb3
  go_wp2
  go_ret
  exact ⟨g, c, _, rfl, (unhide hml).symm, by rw [unhide hmm]; exact own_mono (unhide ho') s2, unhide h3'⟩

end D
end Go.Proofs.Ytmpbcmpjfcddoaa
