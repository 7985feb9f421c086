/-
  Contract of the model's Merge; the answer is new memory.
-/
import Derived.Test.YtmpbcmpjfcddoaaSSo
namespace Go.Proofs.Ytmpbcmpjfcddoaa
open Go.RowKit
set_option linter.unusedVariables false
set_option linter.unusedSimpArgs false
namespace D

set_option maxHeartbeats 1600000 in
theorem smerge_any (B ga na ca gb nb cb : Nat) (l m : List Kl) (w : World) (hA : Own w B ga na ca l) (hB : Own w B gb nb cb m) (ha : na ≤ 100000000) (hb : nb ≤ 100000000) : Calls Try.prog 9 #[.slice (some ⟨ga, 0, none⟩) na ca, .slice (some ⟨gb, 0, none⟩) nb cb] w fun e w' => ∃ g c N, e = .returned (.slice (some ⟨g, 0, none⟩) N c) ∧ N = (mrg l m).length ∧ Own w' w.heap.size g N c (mrg l m) ∧ Below w.heap.size w w' := by
  have la : l.length = na := own_len hA
  have lb : m.length = nb := own_len hB
  have hw1 : IntKind.i64.wrap ((na : Int) + nb) = (na : Int) + nb := by rw [IntKind.wrap_i64]; omega
  have hm0 : Hid (okL l = false ∨ okL m = false ∨ 200 < na + nb → mrg l m = []) := hide (fun h => by
    unfold mrg
    rw [if_neg]
    rcases h with h | h | h
    · simp [h]
    · simp [h]
    · simp; omega)
  have hm1 : Hid (okL l = true → okL m = true → na + nb ≤ 200 → mrg l m = srt (l ++ m)) := hide (fun h1 h2 h3 => by
    unfold mrg
    rw [if_pos (by rw [h1, h2]; simp; omega)])
  have hO' := hide (And.intro hA (And.intro hB (And.intro la lb)))
  clear hA hB la lb
  generalize hx : okL l = x
  generalize hy : okL m = y
  have hx' := hide hx
  have hy' := hide hy
  clear hx hy
  have hnil : ∀ (w1 : World), Hid (Below w.heap.size w w1) → (mrg l m = []) → ∃ g c N, Ending.returned (.slice (some ⟨w1.heap.size, 0, none⟩) 0 0) = .returned (.slice (some ⟨g, 0, none⟩) N c) ∧ N = (mrg l m).length ∧ Own (w1.alloc (.cells #[] 32)) w.heap.size g N c (mrg l m) ∧ Below w.heap.size w (w1.alloc (.cells #[] 32)) := fun w1 h e => ⟨_, _, _, rfl, by rw [e]; rfl, by rw [e]; exact own_lit0 w1 (unhide h).size, (unhide h).alloc (unhide h).size _⟩
  have hnil' := hide hnil
  clear hnil
  cases x
  · go_enter Try.func9, Try.ntmps9
    go_wp2_with fail
    refine (sdp_any B ga na ca l _ _ (unhide hO').1 ha (unhide hx')).mono ?_
    rintro e w1 ⟨rfl, h1⟩
    have h1' := hide h1
    clear h1
    go_wp2
    go_ret
    exact unhide hnil' _ h1' (unhide hm0 (Or.inl (unhide hx')))
  cases y
  · go_enter Try.func9, Try.ntmps9
    go_wp2_with fail
    refine (sdp_any B ga na ca l _ _ (unhide hO').1 ha (unhide hx')).mono ?_
    rintro e w1 ⟨rfl, h1⟩
    have h1' := hide h1
    clear h1
    go_wp2_with fail
    refine (sdp_any B gb nb cb m _ _ (ownsRow_below (unhide hO').2.1 (unhide h1')) hb (unhide hy')).mono ?_
    rintro e w2 ⟨rfl, h2⟩
    have h2' := hide (laterB (unhide h1') h2)
    clear h2 h1'
    go_wp2
    go_ret
    exact unhide hnil' _ h2' (unhide hm0 (Or.inr (Or.inl (unhide hy'))))
  by_cases h200 : na + nb ≤ 200
  rotate_left
  · have td : decide ((200 : Int) < na + nb) = true := by simp; omega
    have td' : decide (200 < na + nb) = true := by simp; omega
    go_enter Try.func9, Try.ntmps9
    go_wp2_with fail
    refine (sdp_any B ga na ca l _ _ (unhide hO').1 ha (unhide hx')).mono ?_
    rintro e w1 ⟨rfl, h1⟩
    have h1' := hide h1
    clear h1
    go_wp2_with fail
    refine (sdp_any B gb nb cb m _ _ (ownsRow_below (unhide hO').2.1 (unhide h1')) hb (unhide hy')).mono ?_
    rintro e w2 ⟨rfl, h2⟩
    have h2' := hide (laterB (unhide h1') h2)
    clear h2 h1'
    go_wp2
    go_ret
    exact unhide hnil' _ h2' (unhide hm0 (Or.inr (Or.inr (by omega))))
  have td : decide ((200 : Int) < na + nb) = false := by simp; omega
  have td' : decide (200 < na + nb) = false := by simp; omega
  have hmm : Hid (mrg l m = srt (l ++ m)) := hide (unhide hm1 (unhide hx') (unhide hy') h200)
  have hml : Hid ((mrg l m).length = na + nb) := hide (by rw [unhide hmm, srt_len, List.length_append]; have := unhide hO'; omega)
  go_enter Try.func9, Try.ntmps9
  go_wp2_with fail
  refine (sdp_any B ga na ca l _ _ (unhide hO').1 ha (unhide hx')).mono ?_
  rintro e w1 ⟨rfl, h1⟩
  have h1' := hide h1
  clear h1
  go_wp2_with fail
  refine (sdp_any B gb nb cb m _ _ (ownsRow_below (unhide hO').2.1 (unhide h1')) hb (unhide hy')).mono ?_
  rintro e w2 ⟨rfl, h2⟩
  have h2' := hide (laterB (unhide h1') h2)
  clear h2 h1'
  have s2 := (unhide h2').size
  have hb3 := hide ((unhide h2').alloc s2 (.cells #[] 32))
  have ho3 : Hid (Own (w2.alloc (.cells #[] 32)) w.heap.size w2.heap.size 0 0 []) := hide (own_lit0 w2 s2)
  have s3 := (unhide hb3).size
  go_wp2_with (at_builtin; refine wpList_app Try.underlying24 _ rfl _ _ rfl w.heap.size w2.heap.size 0 0 [] l (some ⟨ga, 0, none⟩) na ca rfl (unhide ho3) rfl (unhide hO').2.2.1 (kls_own (ownsRow_below (unhide hO').1 (unhide hb3))) (fun h => by cases h) (by omega) (by omega) s3 ?_)
  intro g4 c4 w4 ho4 hg4
  try simp only [Nat.zero_add, List.nil_append] at ho4
  have hb4 : Hid (Below w.heap.size w w4) := hide ((unhide hb3).grown hg4 s3 (fun k hk => by cases hk; exact s2))
  have ho4' := hide ho4
  have s4 := (unhide hb4).size
  have hgB : w.heap.size ≤ g4 := own_ge ho4
  clear ho4 hg4 ho3 hb3 s3
  go_wp2_with (at_builtin; refine wpList_app Try.underlying24 _ rfl _ _ rfl w.heap.size g4 na c4 l m (some ⟨gb, 0, none⟩) nb cb rfl (unhide ho4') rfl (unhide hO').2.2.2 (kls_own (ownsRow_below (unhide hO').2.1 (unhide hb4))) (fun h => by cases h) (by omega) (by omega) s4 ?_)
  intro g5 c5 w5 ho5 hg5
  have hb5 : Hid (Below w.heap.size w w5) := hide ((unhide hb4).grown hg5 s4 (fun k hk => by cases hk; exact hgB))
  have ho5' := hide ho5
  have s5 := (unhide hb5).size
  clear ho5 hg5 ho4' hb4 s4
  go_wp2_with fail
  refine (sso_any w.heap.size g5 (na + nb) c5 (l ++ m) _ (unhide ho5') (by omega)).mono ?_
  rintro e w6 ⟨g, c, rfl, ho6, hb6⟩
  have h6 := hide (laterB (unhide hb5) hb6)
  have ho6' := hide (own_mono ho6 s5)
  clear ho6 hb6 hb5 ho5'
  go_wp2
  go_ret
  exact ⟨g, c, _, rfl, (unhide hml).symm, by rw [unhide hmm]; exact unhide ho6', unhide h6⟩

end D
end Go.Proofs.Ytmpbcmpjfcddoaa
