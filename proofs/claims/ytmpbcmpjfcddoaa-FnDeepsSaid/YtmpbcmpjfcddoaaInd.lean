/-
  Contracts of the library's stable sort and of the list in depth; the answer is new memory.
-/
import Derived.Test.YtmpbcmpjfcddoaaSb
import Derived.Test.YtmpbcmpjfcddoaaApD
namespace Go.Proofs.Ytmpbcmpjfcddoaa
open Go.RowKit
set_option linter.unusedVariables false
set_option linter.unusedSimpArgs false
namespace D

set_option maxHeartbeats 1600000 in
theorem ssf_any (B gg n cap : Nat) (L : List Kl) (w : World) (hO : Own w B gg n cap L) (hn : n ≤ 1000) : Calls Try.prog 33 #[.slice (some ⟨gg, 0, none⟩) n cap, (.func (.func 34) #[] #[])] w fun en w' => en = .returned (.tuple #[]) ∧ Own w' B gg n cap (srt L) ∧ w.grownBy w' (some gg) := by
  have hO' := hide hO
  clear hO
  go_enter Try.func33, Try.ntmps33
  go_wp2_with fail
  refine (stable_any B gg n cap L _ (unhide hO') hn).mono ?_
  rintro en w1 ⟨rfl, L1, hD, hS⟩
  have hf : Hid (Own w1 B gg n cap (srt L) ∧ w.grownBy w1 (some gg)) := hide (by rw [← hD.2.1.done hS]; exact ⟨hD.1, hD.2.2⟩)
  clear hD hS hO'
  go_wp2
  refine bodyPost_end (results_none rfl _ _ _) rfl ?_
  exact ⟨rfl, unhide hf⟩

set_option maxHeartbeats 1600000 in
theorem ind_any (a b : Option Addr) (ca cb p q N : Nat) (l m : List Kl) (w : World) (hp : l.length = p) (hq : m.length = q) (hN : p + q = N) (hN1 : N ≤ 1000) (ha : Kls w a l) (hb : Kls w b m) (na : a = none → ca = 0) (nb : b = none → cb = 0) :
    Calls Try.prog 21 #[.slice a p ca, .slice b q cb] w fun e w' => ∃ g c, e = .returned (.slice (some ⟨g, 0, none⟩) N c) ∧ Own w' w.heap.size g N c (srt (l ++ m)) ∧ Below w.heap.size w w' := by
  obtain ⟨i0, hi, hz0, hz1, hz2⟩ := info_parts info44
  have tN : IntKind.i64.wrap ((p : Int) + q) = N := by rw [IntKind.wrap_i64]; omega
  have b1 : p ≤ 1000 := by omega
  have b2 : q ≤ 1000 := by omega
  have hk := hide (And.intro hp (And.intro hq (And.intro hN (And.intro ha (And.intro hb (And.intro na nb))))))
  clear hp hq hN ha hb na nb
  go_enter Try.func21, Try.ntmps21
  go_wp2_with (refine wpList_make_own _ rfl _ _ 24 rfl w.heap.size 32 i0 (.agg #[.int .i64 0, .int .i64 0, .int .i64 0, .int .i64 0, .int .i64 0]) 5 Try.underlying24 hi hz0 hz1 .i64 .i64 _ N rfl rfl rfl ?b2 ?b3 ?b4 ?_)
  case b2 => rw [hz2]; omega
  case b3 => unfold maxLen; omega
  case b4 => omega
  intro w3 hown3 hg3
  have hb3 : Hid (Below w.heap.size w w3) := hide ((Below.refl _ _).grown hg3 (by omega) (fun k hk => by cases hk))
  have ho3 : Hid (Own w3 w.heap.size w.heap.size 0 N []) := hide hown3
  have s3 := (unhide hb3).size
  clear hown3 hg3 hz0 hz1 hz2 hi
  go_wp2_with (at_builtin; refine wpList_app Try.underlying24 _ rfl _ _ rfl w.heap.size w.heap.size 0 N [] l a p ca rfl (unhide ho3) rfl (unhide hk).1 ((unhide hk).2.2.2.1.below (unhide hb3)) (unhide hk).2.2.2.2.2.1 (by omega) (by omega) s3 ?_)
  intro g4 c4 w4 ho4 hg4
  try simp only [Nat.zero_add, List.nil_append] at ho4
  have hb4 : Hid (Below w.heap.size w w4) := hide ((unhide hb3).grown hg4 s3 (fun k hk => by cases hk; exact Nat.le_refl _))
  have ho4' := hide ho4
  have s4 := (unhide hb4).size
  have hgB : w.heap.size ≤ g4 := by rcases ho4.2 with ⟨h1, _⟩ | ⟨g, cap, cur, h1, h2, _⟩; cases h1; cases h1; exact h2
  clear ho4 hg4 ho3 hb3 s3
  go_wp2_with (at_builtin; refine wpList_app Try.underlying24 _ rfl _ _ rfl w.heap.size g4 p c4 l m b q cb rfl (unhide ho4') rfl (unhide hk).2.1 ((unhide hk).2.2.2.2.1.below (unhide hb4)) (unhide hk).2.2.2.2.2.2 (by omega) (by omega) s4 ?_)
  intro g5 c5 w5 ho5 hg5
  rw [(unhide hk).2.2.1] at ho5 ⊢
  have hb5 : Hid (Below w.heap.size w w5) := hide ((unhide hb4).grown hg5 s4 (fun k hk => by cases hk; exact hgB))
  have ho5' := hide ho5
  have s5 := (unhide hb5).size
  have hgC : w.heap.size ≤ g5 := by rcases ho5.2 with ⟨h1, _⟩ | ⟨g, cap, cur, h1, h2, _⟩; cases h1; cases h1; exact h2
  clear ho5 hg5 ho4' hb4 s4
  go_wp2_with fail
  refine (ssf_any w.heap.size g5 N c5 (l ++ m) _ (unhide ho5') hN1).mono ?_
  rintro en w6 ⟨rfl, ho6, hg6⟩
  have hb6 : Hid (Below w.heap.size w w6) := hide ((unhide hb5).grown hg6 s5 (fun k hk => by cases hk; exact hgC))
  have ho6' := hide ho6
  clear ho6 hg6 ho5' hb5 s5
  go_wp2
  go_ret
  exact ⟨g5, c5, rfl, unhide ho6', unhide hb6⟩

end D
end Go.Proofs.Ytmpbcmpjfcddoaa
