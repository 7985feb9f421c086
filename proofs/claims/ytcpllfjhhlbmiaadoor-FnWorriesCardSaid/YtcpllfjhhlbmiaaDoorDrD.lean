/-
  The contract of the model's draw of titles and a delay; plain: what is delayed comes back; nothing that was there is written.
-/
import Derived.Test.YtcpllfjhhlbmiaaDoorDrT
import Derived.Test.YtcpllfjhhlbmiaaDoorDlI
namespace Go.Proofs.YtcpllfjhhlbmiaaDoor
open Go.RowKit
set_option linter.unusedVariables false
set_option linter.unusedSimpArgs false

theorem dly_back {l R : List Kl} {b : Int} (h : dly b l = (R, true)) : dly (-b) R = (l, true) := by
  unfold dly at h
  split at h
  · rename_i h1
    split at h
    · rename_i h2
      split at h
      · rename_i h3
        injection h with h4 _
        subst h4
        have e : (l.map (sh b)).map (sh (-b)) = l := by
          rw [List.map_map]
          have : (sh (-b) ∘ sh b) = id := by
            funext x
            obtain ⟨x0, x1, x2⟩ := x
            simp [sh]
            omega
          rw [this, List.map_id]
        unfold dly
        rw [if_pos h3, if_pos (by omega), e, if_pos h1]
      · injection h with _ h5; cases h5
    · injection h with _ h5; cases h5
  · injection h with _ h5; cases h5
theorem dly_no {l R : List Kl} {b : Int} (h : dly b l = (R, false)) : R = [] := by
  unfold dly at h
  split at h
  · split at h
    · split at h
      · injection h with _ h5; cases h5
      · injection h with h5; exact h5.symm
    · injection h with h5; exact h5.symm
  · injection h with h5; exact h5.symm
theorem dly_rng {l R : List Kl} {b : Int} (h : dly b l = (R, true)) : -359999999 ≤ b ∧ b ≤ 359999999 := by
  unfold dly at h
  split at h
  · split at h
    · assumption
    · injection h with _ h5; cases h5
  · injection h with _ h5; cases h5
theorem dly_sz {l R : List Kl} {b : Int} (h : dly b l = (R, true)) (hs : ∀ x ∈ l, x.2.2.size ≤ 25) : ∀ x ∈ R, x.2.2.size ≤ 25 := by
  unfold dly at h
  split at h
  · split at h
    · split at h
      · injection h with h4 _
        subst h4
        intro x hx
        obtain ⟨y, hy, rfl⟩ := List.mem_map.1 hx
        exact hs y hy
      · injection h with _ h5; cases h5
    · injection h with _ h5; cases h5
  · injection h with _ h5; cases h5

set_option maxHeartbeats 400000 in
theorem big_any (a : Option Addr) (n c : Nat) (w : World) : Calls Tryd.prog 6 #[.slice a n c] w fun e w' => e = .returned (.bool (decide (4096 < n))) ∧ w' = w := by
  go_enter Tryd.func6, Tryd.ntmps6
  go_wp2
  go_ret
  exact ⟨ret_bool (by simp; omega), rfl⟩

set_option maxHeartbeats 800000 in
theorem from_any (B g : Nat) (a : Option Addr) (len cap : Nat) (lo hi : Int) (w : World) (hB : B ≤ g) (hl : len ≤ 9223372036854775807) (hc : CurAt w g a len cap) (hr : RdB w B a len) (h1 : -1000000 ≤ lo) (h2 : lo ≤ hi) (h3 : hi ≤ 1000000) :
    Calls Tryd.prog 45 #[.pointer (some ⟨g, 0, none⟩), .int .i64 lo, .int .i64 hi] w fun e w' => ∃ x, e = .returned (.int .i64 x) ∧ lo ≤ x ∧ x ≤ hi ∧ CurAt w' g a len cap ∧ w.grownBy w' (some g) := by
  have hc' := hide hc
  have hr' := hide hr
  clear hc hr
  go_enter Tryd.func45, Tryd.ntmps45
  go_wp2_with fail
  refine (below_any B g a len cap (hi - lo + 1) _ hB hl (unhide hc') (unhide hr') (by omega)).mono ?_
  rintro e w1 ⟨x, rfl, x0, x1, k1, g1⟩
  have k1' := hide k1
  have g1' := hide g1
  clear k1 g1
  go_wp2
  go_ret
  exact ⟨_, rfl, by omega, by omega, unhide k1', unhide g1'⟩
theorem rdb_later {w w1 : World} {B : Nat} {a : Option Addr} {len : Nat} (h : RdB w B a len) (hb : Below B w w1) : RdB w1 B a len := by
  intro j hj
  obtain ⟨b, o, z, e, hb2, hc, h0, h1⟩ := h j hj
  exact ⟨b, o, z, e, hb2, (hb.cell (p := ⟨b, o + j, none⟩) hb2).trans hc, h0, h1⟩
theorem lit_at5 {w : World} {T : TypeId} {a0 a1 a2 a3 a4 : Int} (k : Nat) (hk : k < 5) : ∃ v : Int, (w.alloc (.cells #[.int .i64 a0, .int .i64 a1, .int .i64 a2, .int .i64 a3, .int .i64 a4] T)).cell? ⟨w.heap.size, k, none⟩ = some (.int .i64 v) := by
  have hc : k = 0 ∨ k = 1 ∨ k = 2 ∨ k = 3 ∨ k = 4 := by omega
  rcases hc with rfl | rfl | rfl | rfl | rfl
  · exact ⟨a0, by simp [go_sem]⟩
  · exact ⟨a1, by simp [go_sem]⟩
  · exact ⟨a2, by simp [go_sem]⟩
  · exact ⟨a3, by simp [go_sem]⟩
  · exact ⟨a4, by simp [go_sem]⟩
/-- titles of the call's own -/
def Tt (W : World) (gl n c : Nat) (L : List Kl) (w' : World) : Prop := n ≤ 201 ∧ Own w' W.heap.size gl n c L ∧ (∀ x ∈ L, x.2.2.size ≤ 25) ∧ Below W.heap.size W w'
theorem tt_of {W w1 w' : World} {g gl n c : Nat} {a : Option Addr} {len cap : Nat} {L : List Kl} (hb : Below W.heap.size W w1) (hg : W.heap.size ≤ g) (hn : n ≤ 201) (h : KS w1 W.heap.size g a len cap w' gl n c L) : Tt W gl n c L w' :=
  ⟨hn, own_mono h.ow hb.size, h.sz, below_grown hb h.ds.gr hg⟩

set_option maxRecDepth 100000 in
set_option maxHeartbeats 3200000 in
theorem ddl_any (a : Option Addr) (len cap : Nat) (W : World) (hl2 : len ≤ 4096) (hr : RdB W W.heap.size a len) :
    Calls Tryd.prog 19 #[.slice a len cap] W fun e w' => ∃ gl n c L, ∃ by' : Int, e = .returned (.tuple #[.slice (some ⟨gl, 0, none⟩) n c, .int .i64 by']) ∧ Tt W gl n c L w' := by
  have hlen : len ≤ 9223372036854775807 := by omega
  have hr' := hide hr
  clear hr
  go_enter Tryd.func19, Tryd.ntmps19
  go_wp2_with fail
  refine (new_any a len cap W hlen (by omega) (unhide hr')).mono ?_
  rintro e w1 ⟨g, rfl, hg0, hc1, hb1⟩
  have hBW := hide hb1
  have D1 := hide (show DS w1 W.heap.size g a len cap w1 from ⟨hc1, rdb_later (unhide hr') hb1, grown_refl _ _⟩)
  have hgl := hc1.lt
  have hBw : W.heap.size ≤ w1.heap.size := hb1.size
  have hBg : W.heap.size ≤ g := by omega
  clear hc1 hb1
  go_wp2_with fail
  refine (from_any W.heap.size g a len cap (-4000) 4000 _ hBg hlen (unhide D1).cur (unhide D1).rd (by omega) (by omega) (by omega)).mono ?_
  rintro e w2 ⟨y, rfl, _, _, k1, g1⟩
  have D2 := hide ((unhide D1).step hBg k1 g1)
  clear k1 g1 D1
  go_wp2_with fail
  refine (once_any W.heap.size g a len cap 12 _ hBg hlen (unhide D2).cur (unhide D2).rd (by omega)).mono ?_
  rintro e w3 ⟨v, rfl, k1, g1⟩
  have D3 := hide ((unhide D2).step hBg k1 g1)
  clear k1 g1 D2
  cases v with
  | false =>
    go_wp2_with fail
    refine (dtt_any W.heap.size g a len cap w3 hBg (Nat.le_trans hBw (unhide D3).gr.size) hlen (unhide D3).cur (unhide D3).rd).mono ?_
    rintro e w4 ⟨gl, n, c, L, rfl, hn, K⟩
    have hT := hide (tt_of (w1 := w3) (below_grown (unhide hBW) (unhide D3).gr hBg) hBg hn K)
    clear K D3
    go_wp2
    refine bodyPost_ret (v := .tuple #[.slice (some ⟨gl, 0, none⟩) n c, .int .i64 y]) (by simp [results, Tryd.results19, go_sem]) rfl ⟨gl, n, c, L, y, rfl, unhide hT⟩
  | true =>
    have hla := hide (fun q hq => lit_at5 (w := w3) (T := 2) (a0 := 359999999) (a1 := 360000000) (a2 := -359999999) (a3 := -9223372036854775808) (a4 := 0) q hq)
    have D4 := hide ((unhide D3).later hBg ((Below.refl w3.heap.size w3).alloc (Nat.le_refl _) (.cells #[.int .i64 359999999, .int .i64 360000000, .int .i64 (-359999999), .int .i64 (-9223372036854775808), .int .i64 0] 2)))
    have hEg : w3.heap.size ≠ g := by have := (unhide D3).cur.lt; omega
    clear D3
    go_wp2_with fail
    generalize hY : w3.alloc _ = Y at *
    refine (below_any W.heap.size g a len cap 5 _ hBg hlen (unhide D4).cur (unhide D4).rd (by omega)).mono ?_
    rintro e w5 ⟨q, rfl, q0, q1, k1, g1⟩
    obtain ⟨r, rfl⟩ := Int.eq_ofNat_of_zero_le q0
    obtain ⟨s, hv⟩ := unhide hla r (by omega)
    have hv1 := grown_cell g1 hEg hv
    have D5 := hide ((unhide D4).step hBg k1 g1)
    clear hv k1 g1 D4 hla hY
    go_wp2_with fail
    refine (dtt_any W.heap.size g a len cap w5 hBg (Nat.le_trans hBw (unhide D5).gr.size) hlen (unhide D5).cur (unhide D5).rd).mono ?_
    rintro e w6 ⟨gl, n, c, L, rfl, hn, K⟩
    have hT := hide (tt_of (w1 := w5) (below_grown (unhide hBW) (unhide D5).gr hBg) hBg hn K)
    clear K D5 hv1
    go_wp2
    refine bodyPost_ret (v := .tuple #[.slice (some ⟨gl, 0, none⟩) n c, .int .i64 s]) (by simp [results, Tryd.results19, go_sem]) rfl ⟨gl, n, c, L, s, rfl, unhide hT⟩

end Go.Proofs.YtcpllfjhhlbmiaaDoor
