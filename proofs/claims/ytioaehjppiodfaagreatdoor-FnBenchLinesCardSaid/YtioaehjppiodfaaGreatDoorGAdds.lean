/-
  Contracts of the program's appends of frames and of clips to a list of changes.
-/
import Derived.Test.YtioaehjppiodfaaGreatDoorGAlP
namespace Go.Proofs.YtioaehjppiodfaaGreatDoor
open Go.RowKit
set_option linter.unusedVariables false
set_option linter.unusedSimpArgs false

/-- a list of changes that was appended to -/
def AcR (w w' : World) (B g : Nat) (L : List Ch) (e : Ending) : Prop :=
  ∃ g' c', e = .returned (.slice (some ⟨g', 0, none⟩) L.length c') ∧ OwnC w' B g' L.length c' L ∧ w.grownBy w' (some g) ∧ (g' = g ∨ w.heap.size ≤ g')

set_option maxHeartbeats 1600000 in
theorem afr_any (B g cap : Nat) (L : List Ch) (kind n : Int) (w : World) (hl : L.length ≤ 200000) (hB : B ≤ w.heap.size) (hown : OwnC w B g L.length cap L) :
    Calls Tryz.prog 116 #[.slice (some ⟨g, 0, none⟩) L.length cap, .int .i64 kind, .int .i64 n] w fun e w' => AcR w w' B g (L ++ frs kind n) e := by
  have hown' := hide hown
  clear hown
  by_cases hn : n = 0
  · subst hn
    have hf := hide (show L ++ frs kind 0 = L by simp [frs])
    go_enter Tryz.func116, Tryz.ntmps116
    go_wp2
    go_ret
    rw [unhide hf]
    exact ⟨g, cap, rfl, unhide hown', grown_refl _ _, .inl rfl⟩
  · have hn' : (n == 0) = false := by simpa using hn
    have hf := hide (show L ++ frs kind n = L ++ [(kind, 0, 0, n)] by simp [frs, hn])
    clear hn
    have hA := hide (ownsRow_below (unhide hown') ((Below.refl _ w).alloc (Nat.le_refl _) (.cells #[.int .i64 kind, .int .i64 0, .int .i64 0, .int .i64 n] 103)))
    go_enter Tryz.func116, Tryz.ntmps116
    go_wp2_with (at_builtin; refine wpList_c Tryz.underlying100 _ rfl _ _ rfl B g L.length cap L (kind, 0, 0, n) rfl (unhide hA) w.heap.size rfl (World.alloc_heap_new w _) (by omega) (by simp; omega) ?_)
    intro g' cap' w' h1 h2 h3
    have h1' := hide h1
    have h2' := hide (grown_step (World.grownBy_alloc w _ _) h2 (.inl rfl))
    have h3' : g' = g ∨ w.heap.size ≤ g' := by rcases h3 with h | h; · exact .inl h
                                               · right; first | omega | (simp at h; omega)
    clear h1 h2 h3
    go_wp2
    go_ret
    rw [unhide hf]
    exact ⟨g', cap', by simp, by simpa using unhide h1', unhide h2', h3'⟩

set_option maxHeartbeats 3200000 in
theorem aad_any (B g cap : Nat) (L : List Ch) (a : Option Addr) (ca : Nat) (m : List Kl) (w : World) (hl : L.length ≤ 200000) (hm : m.length ≤ 1000) (hA : AOk m) (hB : B ≤ w.heap.size) (hk : Kls w a m) (hown : OwnC w B g L.length cap L) :
    Calls Tryz.prog 117 #[.slice (some ⟨g, 0, none⟩) L.length cap, .slice a m.length ca] w fun e w' => AcR w w' B g (L ++ adds (join m)) e := by
  have hown' := hide hown
  have hk' := hide hk
  have hA' := hide hA
  have hjl : (join m).length ≤ 100000 := (by have := len_join m; omega)
  clear hown hk hA
  go_enter Tryz.func117, Tryz.ntmps117
  go_wp2_with fail
  refine (ijoin_any a ca m _ hm (unhide hA') (unhide hk')).mono ?_
  rintro e w1 ⟨g1, c1, rfl, q1, n1, k1⟩
  have o0 := hide (ownsRow_below (unhide hown') k1)
  have n1' := hide n1
  have k1' := hide (grown_below (grown_refl w (some g)) k1)
  clear hown' n1 k1 hk' hA'
  obtain ⟨J, hJ⟩ : ∃ J, J = join m := ⟨_, rfl⟩
  rw [← hJ] at n1' hjl ⊢
  have hJ' := hide hJ
  clear hJ
  go_wp2
  go_loopw [0, 10] (fun s t wr => ∃ k g' c' : Nat, k ≤ J.length ∧ t = .int .i64 k ∧ s = .slice (some ⟨g', 0, none⟩) (L ++ adds (J.take k)).length c' ∧ Hid (OwnC wr B g' (L ++ adds (J.take k)).length c' (L ++ adds (J.take k))) ∧ Hid (Own wr w.heap.size g1 J.length c1 J) ∧ Hid (w.grownBy wr (some g)) ∧ (g' = g ∨ w.heap.size ≤ g')) (fun _ t _ => J.length - (intOf t).toNat)
  case atStart => exact ⟨0, g, cap, by omega, rfl, by simp [adds], hide (by simpa [adds] using unhide o0), n1', k1', .inl rfl⟩
  case round =>
    clear o0 n1' k1'
    obtain ⟨k, g', c', hk, rfl, rfl, hO, hI, hG, hg⟩ := hrel
    obtain ⟨M, hM⟩ : ∃ M, M = L ++ adds (J.take k) := ⟨_, rfl⟩
    have hMl : M.length ≤ 300000 := by rw [hM, List.length_append, adds_len, List.length_take]; omega
    rw [← hM] at hO ⊢
    by_cases hlt : k < J.length
    · obtain ⟨⟨x1, x2, x3⟩, hx⟩ : ∃ x, J[k]? = some x := ⟨J[k], List.getElem?_eq_getElem hlt⟩
      obtain ⟨c0, c1', c2⟩ := own_cells hx (unhide hI)
      simp only at c0 c1' c2
      have hs := hide (show L ++ adds (J.take (k + 1)) = M ++ [(3, x1, x2, x3)] by rw [adds_snoc hx, hM, List.append_assoc])
      have hX := ((Below.refl wr.heap.size wr).alloc (Nat.le_refl _) (.cells #[.int .i64 x1, .int .i64 x2, .int .i64 x3] 94)).alloc (by simp) (.cells #[.int .i64 3, .int .i64 x1, .int .i64 x2, .int .i64 x3] 103)
      have hOX := hide (ownsRow_below (unhide hO) hX)
      have hIX := hide (ownsRow_below (unhide hI) hX)
      have hGX := hide (grown_below (unhide hG) hX)
      have hsz : wr.heap.size + 2 ≤ ((wr.alloc (.cells #[.int .i64 x1, .int .i64 x2, .int .i64 x3] 94)).alloc (.cells #[.int .i64 3, .int .i64 x1, .int .i64 x2, .int .i64 x3] 103)).heap.size := by simp
      have hBw : B ≤ wr.heap.size := Nat.le_trans hB (unhide hG).size
      have hww := (unhide hG).size
      have hnb : ((wr.alloc (.cells #[.int .i64 x1, .int .i64 x2, .int .i64 x3] 94)).alloc (.cells #[.int .i64 3, .int .i64 x1, .int .i64 x2, .int .i64 x3] 103)).heap[wr.heap.size + 1]? = some (.cells #[.int .i64 3, .int .i64 x1, .int .i64 x2, .int .i64 x3] 103 (0, 0)) := by
        have := World.alloc_heap_new (wr.alloc (.cells #[.int .i64 x1, .int .i64 x2, .int .i64 x3] 94)) (.cells #[.int .i64 3, .int .i64 x1, .int .i64 x2, .int .i64 x3] 103)
        rwa [World.size_alloc] at this
      have hnb' := hide hnb
      clear hX hx hM hO hI hG hnb
      go_wp2_with (at_builtin; refine wpList_c Tryz.underlying100 _ rfl _ _ rfl B g' M.length c' M (3, x1, x2, x3) rfl (unhide hOX) (wr.heap.size + 1) rfl (unhide hnb') (by omega) (by omega) ?_)
      intro g2 cap2 w2 h1 h2 h3
      have hne : g1 ≠ g' := fun e => by
        obtain ⟨_, h⟩ := (unhide hIX)
        rcases h with ⟨hv, _⟩ | ⟨gg, cc, cur, hv, _, hh, _⟩
        · cases hv
        · injection hv with e1
          injection e1 with e1
          injection e1 with e1
          subst e1
          exact own_ne (unhide hOX) hh (by decide) e
      have hO2 := hide (show OwnC w2 B g2 (M ++ [(3, x1, x2, x3)]).length cap2 (M ++ [(3, x1, x2, x3)]) by simpa using h1)
      have hI2 := hide (own_kept (unhide hIX) h2 hne)
      have hG2 := hide (grown_step (unhide hGX) h2 hg)
      have hg2 : g2 = g ∨ w.heap.size ≤ g2 := by rcases h3 with rfl | h; · exact hg
                                                 · right; omega
      clear h1 h2 h3 hOX hIX hGX hnb'
      go_wp2
      go_roundw
      case rel => exact ⟨k + 1, g2, cap2, by omega, by go_num, by rw [unhide hs]; simp, by rw [unhide hs]; exact hO2, hI2, hG2, hg2⟩
      case measure => simp [intOf]; omega
    · have hke : k = J.length := by omega
      have hMe : M = L ++ adds J := by rw [hM, hke, List.take_length]
      subst hMe
      clear hM
      go_wp2
      go_ret
      rw [← unhide hJ']
      exact ⟨g', c', rfl, unhide hO, unhide hG, hg⟩

end Go.Proofs.YtioaehjppiodfaaGreatDoor
