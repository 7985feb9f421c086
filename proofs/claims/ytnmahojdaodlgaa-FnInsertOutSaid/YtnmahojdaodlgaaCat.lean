/-
  Contracts of the library's Grow, Concat and Clone of clips, as the program calls them: the answer is new memory, nothing that was there is written.
-/
import Derived.Test.YtnmahojdaodlgaaApp
import Derived.Lib.LazyBuf
namespace Go.Proofs.Ytnmahojdaodlgaa
open Go.RowKit
set_option linter.unusedVariables false
set_option linter.unusedSimpArgs false

set_option maxHeartbeats 800000 in
theorem grow_any (n : Nat) (w : World) (hn : n ≤ 1000000) :
    Calls Try.prog 95 #[.slice none 0 0, .int .i64 n] w fun e w' => ∃ v, e = .returned v ∧ OwnV w' w.heap.size v [] ∧ Below w.heap.size w w' := by
  obtain ⟨i0, hi, hz0, hz1, hz2⟩ := info_parts info44
  by_cases h0 : n = 0
  · subst h0
    go_enter Try.func95, Try.ntmps95
    go_wp2
    go_ret
    exact ⟨_, rfl, World.ownsRow_nil _ _ _ _, Below.refl _ _⟩
  · have h1 : decide ((0 : Int) < n) = true := by simp; omega
    have happ := Lib.run_append_nil_zeros (P := Try.prog) w 61 3 61 26 i0 (.agg #[.int .i64 0, .int .i64 0, .int .i64 0]) .i64 .i64 Try.underlying61 Try.underlying3 hi hz0 n (by omega) (by rw [hz1]; omega) (by omega) (by rw [hz2]; omega)
    generalize hcap : grownCap w n 0 26 = cap2 at happ
    have hcapge : n ≤ cap2 := by rw [← hcap]; exact grownCap_ge w _ 0 26
    have hcaple : cap2 ≤ maxLen := by rw [← hcap]; exact grownCap_le_maxLen w _ 0 26 (by unfold maxLen; omega)
    generalize hZ : (Builtin.zeroCells (Value.agg #[.int .i64 0, .int .i64 0, .int .i64 0]).cells n ++ Builtin.zeroCells (Value.agg #[.int .i64 0, .int .i64 0, .int .i64 0]).cells (cap2 - n)) = Z at happ
    have hZs : Z.size = cap2 * 3 := by rw [← hZ]; simp [size_zeroCells, Value.cells]; omega
    clear hcap hZ
    go_enter Try.func95, Try.ntmps95
    go_wp2_with (at_builtin; refine Lib.wpList_append_run _ rfl _ _ _ _ rfl _ _ rfl rfl _ _ happ ?_)
    go_ret
    exact ⟨_, rfl, ⟨rfl, .inr ⟨w.heap.size, cap2, Z, rfl, Nat.le_refl _, heap_alloc_new w.drew _, Nat.zero_le _, hcaple, hZs, rfl⟩⟩, ((Below.refl _ _).drew).alloc (Nat.le_refl _) _⟩

/-- lists behind each other -/
abbrev Es := List (Option Addr × Nat × List Kl)
def cat : Es → List Kl
  | [] => []
  | e :: es => e.2.2 ++ cat es
theorem cat_append (a b : Es) : cat (a ++ b) = cat a ++ cat b := by
  induction a with
  | nil => rfl
  | cons e a ih => simp [cat, ih]
theorem cat_take {es : Es} {k : Nat} {e : Option Addr × Nat × List Kl} (h : es[k]? = some e) : cat (es.take (k + 1)) = cat (es.take k) ++ e.2.2 := by
  rw [List.take_add_one, h, cat_append]; simp [cat]
theorem cat_take_le (es : Es) (k : Nat) : (cat (es.take k)).length ≤ (cat es).length := by
  have : cat es = cat (es.take k) ++ cat (es.drop k) := by rw [← cat_append, List.take_append_drop]
  rw [this, List.length_append]; omega

set_option maxHeartbeats 1600000 in
theorem concat_any (b cap : Nat) (es : Es) (w : World) (hl : (cat es).length ≤ 2000) (he : es.length ≤ 10) (hb : b < w.heap.size)
    (hc : ∀ k e, es[k]? = some e → w.cell? ⟨b, k, none⟩ = some (.slice e.1 e.2.2.length e.2.1) ∧ Kls w e.1 e.2.2 ∧ (e.1 = none → e.2.1 = 0)) :
    Calls Try.prog 92 #[.slice (some ⟨b, 0, none⟩) es.length cap] w fun e w' => ∃ v, e = .returned v ∧ OwnV w' w.heap.size v (cat es) ∧ Below w.heap.size w w' := by
  have hc' := hide hc
  clear hc
  go_enter Try.func92, Try.ntmps92
  go_wp2
  go_loop [3, 11] (fun s t => ∃ k : Nat, k ≤ es.length ∧ t = .int .i64 k ∧ s = .int .i64 (cat (es.take k)).length) (fun _ t => es.length - (intOf t).toNat)
  case atStart => exact ⟨0, by omega, rfl, rfl⟩
  case round =>
    obtain ⟨k, hk, rfl, rfl⟩ := hrel
    have hkl := cat_take_le es k
    by_cases hlt : k < es.length
    · obtain ⟨⟨a, c, L⟩, hx⟩ : ∃ e, es[k]? = some e := ⟨_, List.getElem?_eq_getElem hlt⟩
      obtain ⟨c0, _, _⟩ := unhide hc' k _ hx
      have hkl2 := cat_take_le es (k + 1)
      have hct := cat_take hx
      simp only at c0 hct
      rw [hct, List.length_append] at hkl2
      have hct' := hide hct
      clear hx hct
      obtain ⟨m, hm⟩ : ∃ m, m = (cat (es.take k)).length := ⟨_, rfl⟩
      rw [← hm] at hkl hkl2 ⊢
      have hm' := hide hm
      clear hm
      have hneg : decide ((m : Int) + (L.length : Int) < 0) = false := by simp; omega
      go_wp2
      go_round
      case rel => exact ⟨k + 1, by omega, by go_num, by rw [unhide hct', List.length_append, ← unhide hm']; exact congrArg (Value.int .i64) (by omega)⟩
      case measure => simp [intOf]; omega
    · have hke : k = es.length := by omega
      have hct := hide (show cat (es.take k) = cat es by rw [hke, List.take_length])
      rw [unhide hct]
      clear hkl
      obtain ⟨N, hN⟩ : ∃ N, N = (cat es).length := ⟨_, rfl⟩
      rw [← hN] at hl ⊢
      have hN' := hide hN
      clear hN
      go_wp2_with fail
      refine (grow_any N _ (by omega)).mono ?_
      rintro e w1 ⟨v1, rfl, o1, k1⟩
      have o1' := hide o1
      have H1 := hide k1
      clear o1 k1
      go_wp2
      go_loopw [6, 27] (fun s t wr => ∃ k : Nat, k ≤ es.length ∧ t = .int .i64 k ∧ Hid (OwnV wr w.heap.size s (cat (es.take k))) ∧ Hid (Below w.heap.size w wr)) (fun _ t _ => es.length - (intOf t).toNat)
      case atStart => exact ⟨0, by omega, rfl, o1', H1⟩
      case round =>
        clear o1' H1
        obtain ⟨k, hk, rfl, oV, hw⟩ := hrel
        have hkl := cat_take_le es k
        by_cases hlt : k < es.length
        · obtain ⟨⟨a, c, L⟩, hx⟩ : ∃ e, es[k]? = some e := ⟨_, List.getElem?_eq_getElem hlt⟩
          obtain ⟨c0, kl, hnn⟩ := unhide hc' k _ hx
          have c1 := cell_later (unhide hw) c0
          have kl' := hide (kl.below (unhide hw))
          have hnn' := hide hnn
          have hct' := hide (cat_take hx)
          have hLl : L.length ≤ 2000 := by have := cat_take_le es (k + 1); rw [cat_take hx, List.length_append] at this; simp only at this; have := unhide hN'; omega
          simp only at c1 kl' hnn'
          clear hx c0 kl hnn
          have hkl3 : (cat (es.take k)).length ≤ 2000 := by have := unhide hN'; omega
          go_wp2_with (at_builtin; refine wpList_apps Try.underlying61 _ rfl _ _ rfl w.heap.size _ (cat (es.take k)) L a c rfl (unhide oV) rfl (unhide kl') (unhide hnn') (by omega) (by omega) (unhide hw).size ?_)
          intro v' w' n' k' _
          have oV' := hide (show OwnV w' w.heap.size v' (cat (es.take (k + 1))) by rw [unhide hct']; exact n')
          have hw' := hide ((unhide hw).trans k')
          clear n' k' oV hw
          go_wp2
          go_roundw
          case rel => exact ⟨k + 1, by omega, by go_num, oV', hw'⟩
          case measure => simp [intOf]; omega
        · have hke : k = es.length := by omega
          have oF := unhide oV
          rw [hke, List.take_length] at oF
          have oF' := hide oF
          clear oF oV
          go_wp2
          go_ret
          exact ⟨_, rfl, unhide oF', unhide hw⟩

set_option maxHeartbeats 800000 in
theorem clone_any (b o cap : Nat) (l : List Kl) (w : World) (hl : l.length ≤ 1000000) (hk : Kls w (some ⟨b, o, none⟩) l) :
    Calls Try.prog 93 #[.slice (some ⟨b, o, none⟩) l.length cap] w fun e w' => ∃ v, e = .returned v ∧ OwnV w' w.heap.size v l ∧ Below w.heap.size w w' := by
  have hA : Below w.heap.size w (w.alloc (.cells #[] 26)) := (Below.refl _ _).alloc (Nat.le_refl _) _
  have K1 := hide (hk.below hA)
  have H1 := hide hA
  have o1 := hide (own_lit0 w (Nat.le_refl _))
  have q53 : ∀ (w : World) (a : Option Addr) (n c : Nat), (binOp .eql 61 (.slice a n c) (.slice none 0 0)).run Try.prog w = .ok (.bool a.isNone) w := fun w a n c => run_eql_slice_nil w 61 26 a n c Try.underlying61
  clear hk hA
  go_enter Try.func93, Try.ntmps93
  go_wp2_with (at_builtin; refine wpList_apps Try.underlying61 _ rfl _ _ rfl w.heap.size (.slice (some ⟨w.heap.size, 0, none⟩) 0 0) [] l (some ⟨b, o, none⟩) cap rfl (unhide o1) rfl (unhide K1) (fun h => by cases h) (by simp) (by omega) (by simp) ?_)
  intro v w2 nv kv _
  go_wp2
  go_ret
  exact ⟨v, rfl, nv, (unhide H1).trans kv⟩

end Go.Proofs.Ytnmahojdaodlgaa
