/-
  How much a list of boxes holds in all, told by the law's own count; the model's ShowBoxes whole.
-/
import Derived.Test.YtdiamcejpjopgaaSShow
import Derived.Test.YtdiamcejpjopgaaSOk
import Derived.Test.YtdiamcejpjopgaaMark2
namespace Go.Proofs.Ytdiamcejpjopgaa
open Go.RowKit
set_option linter.unusedVariables false
set_option linter.unusedSimpArgs false

set_option maxHeartbeats 800000 in
theorem szs2_any (a : Option Addr) (cap : Nat) (A : Nat → Option Addr × Nat) (l : List Bx) (w : World) (hl : l.length ≤ maxLen) (hr : Bxs false 0 w.heap.size w a A l) :
    Calls Try.prog 22 #[.slice a l.length cap, .int .i64 1048576] w fun e w' => ∃ r, e = .returned (.int .i64 r) ∧ (r = -1 ∨ (0 ≤ r ∧ l.length ≤ 1048576 ∧ Small 1048576 l ∧ total l ≤ 1048576)) ∧ Below w.heap.size w w' := by
  unfold maxLen at hl
  by_cases h : (1048576 : Int) - l.length < 0
  · have hr' := hide hr
    clear hr
    go_enter Try.func22, Try.ntmps22
    go_wp2
    go_ret
    exact ⟨_, rfl, by omega, Below.refl _ _⟩
  · have hr' := hide hr
    clear hr
    go_enter Try.func22, Try.ntmps22
    go_wp2
    go_loopw [1, 5] (fun s t wr => ∃ (k : Nat) (r : Int), k ≤ l.length ∧ t = .int .i64 k ∧ s = .int .i64 r ∧ 0 ≤ r ∧ r ≤ 1048576 ∧ (Small 1048576 (l.take k) ∧ r + (total (l.take k) : Nat) ≤ 1048576) ∧ Below w.heap.size w wr) (fun _ t _ => l.length - (intOf t).toNat)
    case atStart => exact ⟨0, _, by omega, rfl, rfl, by omega, by omega, ⟨by intro x hx; simp at hx, by simp [total]; omega⟩, Below.refl _ _⟩
    case round =>
      obtain ⟨k, r, hk, rfl, rfl, r0, r1, hs, hb⟩ := hrel
      by_cases hlt : k < l.length
      · obtain ⟨x, hx⟩ : ∃ x, l[k]? = some x := ⟨l[k], List.getElem?_eq_getElem hlt⟩
        obtain ⟨b, o, rfl, h1, h2, c0, c1, c2, hrow, k1, d0, d1, z1, z2, _⟩ := unhide hr' k x hx
        have w0 : wr.cell? ⟨b, o + k * 3, none⟩ = some (.string x.k) := by rw [(bcell hb).1 _ _ h2]; exact c0
        have w1 : wr.cell? ⟨b, o + k * 3 + 1, none⟩ = some (.int .i64 x.d) := by rw [(bcell hb).1 _ _ h2]; exact c1
        have w2 : wr.cell? ⟨b, o + k * 3 + 2, none⟩ = some (.slice (A k).1 x.z.length (A k).2) := by rw [(bcell hb).1 _ _ h2]; exact c2
        have hb' := hide hb
        have hs' := hide hs
        have hx' := hide hx
        have k1' := hide k1
        have z1' := hide (Nat.le_trans z1 z2)
        clear hb hs hx c0 c1 c2 hrow k1 z1 z2
        go_wp2_with fail
        refine (szx_any x.k x.d _ _ _ r _ r0 r1 (unhide z1') (unhide k1')).mono ?_
        rintro e w3 ⟨q, rfl, hq, hb3⟩
        have hB3 := hide ((unhide hb').trans (hb3.mono (unhide hb').size))
        clear hb3
        rcases hq with rfl | ⟨q0, q1⟩
        · go_wp2
          go_ret
          exact ⟨_, rfl, .inl rfl, unhide hB3⟩
        · have hn : ¬ q < 0 := by omega
          have hs2 : Small 1048576 (l.take (k + 1)) ∧ q + (total (l.take (k + 1)) : Nat) ≤ 1048576 := ⟨by rw [take_snoc (unhide hx')]; exact (unhide hs').1.snoc (by omega), by have := (unhide hs').2; rw [total_take (unhide hx')]; omega⟩
          have hs2' := hide hs2
          have q2 : q ≤ 1048576 := by omega
          clear q1 hs2
          go_wp2
          go_roundw
          case rel => exact ⟨k + 1, q, by omega, by go_num, rfl, q0, q2, unhide hs2', unhide hB3⟩
          case measure => simp [intOf]; omega
      · have hke : k = l.length := by omega
        have hs' := hide hs
        clear hs
        go_wp2
        go_ret
        exact ⟨_, rfl, .inr ⟨r0, by omega, by have := unhide hs'; rw [hke] at this; rw [List.take_length] at this; exact ⟨this.1, by have := this.2; omega⟩⟩, hb⟩
theorem own_low {w : World} {B B' n m : Nat} {e : TypeId} {v : Value} {xs : List Value} (h : w.ownsRow B e m v n xs) (hB : B' ≤ B) : w.ownsRow B' e m v n xs := by
  refine ⟨h.1, ?_⟩
  rcases h.2 with h2 | ⟨g, c, cur, h1, h2, h3⟩
  · exact .inl h2
  · exact .inr ⟨g, c, cur, h1, Nat.le_trans hB h2, h3⟩
theorem endK_eq (l : List Bx) : ∀ k, endK k l = k + 2 * l.length + total l := by
  induction l with
  | nil => intro k; simp [endK, total]
  | cons x t ih =>
    intro k
    unfold endK
    rw [ih, List.length_cons]
    simp [nxt, total]
    omega
set_option maxRecDepth 100000 in
set_option maxHeartbeats 1600000 in
theorem sshow_any (a : Option Addr) (cap : Nat) (A : Nat → Option Addr × Nat) (l : List Bx) (w : World) (hl : l.length ≤ 1048576) (hs : Small 1048576 l) (hlc : l.length ≤ cap) (hc2 : cap ≤ 1048576) (hA : ∀ i, i < l.length → ∃ y, (A i).1 = some y) (hr : Bxs false 0 w.heap.size w a A l) :
    Calls Try.prog 13 #[.slice a l.length cap] w fun e w' => ∃ g c, e = .returned (.slice (some ⟨g, 0, none⟩) (sh l).length c) ∧ w'.ownsRow w.heap.size 5 1 (.slice (some ⟨g, 0, none⟩) (sh l).length c) (sh l).length ((sh l).map u8) ∧ Below w.heap.size w w' := by
  have hr' := hide hr
  have hs' := hide hs
  have hA' := hide hA
  clear hr hs hA
  cases hok : ok l
  · have e0 : sh l = [] := by unfold sh; rw [hok]; rfl
    rw [e0]
    clear e0
    go_enter Try.func13, Try.ntmps13
    go_wp2_with fail
    refine (sok_any a cap A l false _ hl (unhide hs') (unhide hr') hok).mono ?_
    rintro e w1 ⟨rfl, b1⟩
    have hol := World.ownsRow_lit (base := w.heap.size) (e := 5) (size := 1) w1 #[] 0 b1.size (by unfold maxLen; omega) rfl
    have hol' := hide hol
    have b1' := hide b1
    clear hol b1
    go_wp2
    go_ret
    exact ⟨_, _, rfl, unhide hol', (unhide b1').alloc (unhide b1').size _⟩
  · obtain ⟨hl2, ht, hk4⟩ := ok_parts hok
    have e0 : sh l = fl l := by unfold sh; rw [if_pos hok]
    rw [e0, fl_len l hk4]
    clear e0
    have hk4' := hide hk4
    clear hk4
    go_enter Try.func13, Try.ntmps13
    go_wp2_with fail
    refine (sok_any a cap A l true _ hl (unhide hs') (unhide hr') hok).mono ?_
    rintro e w1 ⟨rfl, b1⟩
    have hcall := hide (sh_all l.length a cap A l w1 (Nat.le_refl _) ht (unhide hk4') hlc hc2 (unhide hA') (((unhide hr').below b1 (Nat.le_refl _)).mono (Nat.le_refl _) b1.size))
    have b1' := hide b1
    clear b1
    go_wp2_with fail
    refine (unhide hcall).mono ?_
    rintro e w2 ⟨g, c, rfl, own2, b2⟩
    have own2' := hide (own_low own2 (unhide b1').size)
    have B2 := hide ((unhide b1').trans (b2.mono (unhide b1').size))
    clear own2 b2
    go_wp2
    go_ret
    exact ⟨_, _, rfl, unhide own2', unhide B2⟩
theorem sh_bd (l : List Bx) (h : ∀ x ∈ l, ∀ z ∈ x.z, 0 ≤ z ∧ z ≤ 255) : ∀ z ∈ sh l, 0 ≤ z ∧ z ≤ 255 := by
  unfold sh
  split
  · exact fl_bd l h
  · intro z hz; simp at hz
theorem sh_len (l : List Bx) : (sh l).length ≤ 21600 := by
  unfold sh
  split
  · rename_i h
    have := ok_parts h
    rw [fl_len l this.2.2]; exact this.2.1
  · simp
theorem Bxs.bds {own : Bool} {lo hi : Nat} {w : World} {a : Option Addr} {A : Nat → Option Addr × Nat} {l : List Bx} (h : Bxs own lo hi w a A l) : ∀ x ∈ l, ∀ z ∈ x.z, 0 ≤ z ∧ z ≤ 255 := by
  intro x hx
  obtain ⟨j, hj⟩ := List.getElem?_of_mem hx
  obtain ⟨_, _, _, _, _, _, _, _, hrw, _⟩ := h j x hj
  exact hrw.bd
end Go.Proofs.Ytdiamcejpjopgaa
