/-
  Contract of the model's draw of a block: it answers with a list of at most seventeen numbers; nothing that was there is written.
-/
import Derived.Test.YtcchgjeopmaemaaRRRDrC
import Derived.Test.YtcchgjeopmaemaaRRRBuP
import Derived.Test.YtcchgjeopmaemaaRRRTnP
namespace Go.Proofs.YtcchgjeopmaemaaRRR
open Go.RowKit
set_option linter.unusedVariables false
set_option linter.unusedSimpArgs false

theorem own_cap {w : World} {B g n cap m : Nat} {e : TypeId} {xs : List Value} (h : w.ownsRow B e m (.slice (some ⟨g, 0, none⟩) n cap) n xs) : n ≤ cap := by
  obtain ⟨h1, h2⟩ := h
  rcases h2 with h2 | ⟨g', cap', cur, hv, hB, hh, hc, hm, hs, ht⟩
  · cases h2.1
  · injection hv with e1 e2 e3
    subst e3
    exact hc
theorem ins_take {w : World} {a : Option Addr} {l : List Int} (h : Ins w a l) (k : Nat) : Ins w a (l.take k) := by
  intro j x hx
  rw [List.getElem?_take] at hx
  split at hx
  · exact h j x hx
  · cases hx
/-- the state of the draw of a list: the cursor, the list -/
structure IS (w : World) (B g : Nat) (a : Option Addr) (len cap : Nat) (wr : World) (gb n c : Nat) (L : List Int) : Prop where
  ds : DS w B g a len cap wr
  ow : OwnI wr w.heap.size gb n c L
theorem IS.step {w wr w1 : World} {B g : Nat} {a : Option Addr} {len cap gb n c : Nat} {L : List Int} (h : IS w B g a len cap wr gb n c L) (hB : B ≤ g) (hg : g < w.heap.size) (hc : CurAt w1 g a len cap) (hgr : wr.grownBy w1 (some g)) : IS w B g a len cap w1 gb n c L :=
  ⟨h.ds.step hB hc hgr, own_kept h.ow hgr (by have := own_ge h.ow; omega)⟩
theorem IS.later {w wr w1 : World} {B g : Nat} {a : Option Addr} {len cap gb n c : Nat} {L : List Int} (h : IS w B g a len cap wr gb n c L) (hB : B ≤ g) (hb : Below wr.heap.size wr w1) : IS w B g a len cap w1 gb n c L :=
  ⟨h.ds.later hB hb, ownsRow_below h.ow hb⟩
theorem DS.app {w wr w1 : World} {B g : Nat} {a : Option Addr} {len cap : Nat} (h : DS w B g a len cap wr) (hB : B ≤ w.heap.size) (hg : g < w.heap.size) (hb : Below w.heap.size wr w1) : DS w B g a len cap w1 := by
  refine ⟨h.cur.other (hb.block g hg), ?_, ?_⟩
  · intro j hj
    obtain ⟨b, o, z, e, hb2, hc, h0, h1⟩ := h.rd j hj
    exact ⟨b, o, z, e, hb2, (hb.cell (p := ⟨b, o + j, none⟩) (by show b < _; omega)).trans hc, h0, h1⟩
  · exact ⟨hb.os.trans h.gr.os, hb.tape.trans h.gr.tape, hb.output.trans h.gr.output, Nat.le_trans h.gr.size hb.size, fun j hj hn => (hb.block j hj).trans (h.gr.block j hj hn)⟩
theorem IS.app {w wr w1 : World} {B g : Nat} {a : Option Addr} {len cap gb n c gb' n' c' : Nat} {L L' : List Int} (h : IS w B g a len cap wr gb n c L) (hB : B ≤ w.heap.size) (hg : g < w.heap.size) (hb : Below w.heap.size wr w1) (ho : OwnI w1 w.heap.size gb' n' c' L') : IS w B g a len cap w1 gb' n' c' L' :=
  ⟨h.ds.app hB hg hb, ho⟩
theorem IS.put {w wr : World} {B g : Nat} {a : Option Addr} {len cap gb n c : Nat} {L : List Int} (h : IS w B g a len cap wr gb n c L) (hB : B ≤ w.heap.size) (hg : g < w.heap.size) (k : Nat) (v : Int) : IS w B g a len cap (wr.setCell ⟨gb, k, none⟩ (.int .i64 v)) gb n c (L.set k v) :=
  h.app hB hg ((Below.refl _ _).setCell (p := ⟨gb, k, none⟩) (own_ge h.ow) _) (ownI_put k v h.ow)
theorem IS.low {w0 w wr : World} {B g : Nat} {a : Option Addr} {len cap gb n c : Nat} {L : List Int} (h : IS w B g a len cap wr gb n c L) (hb : Below w0.heap.size w0 w) (hg : w0.heap.size ≤ g) : Below w0.heap.size w0 wr := below_grown hb h.ds.gr hg
theorem IS.size {w wr : World} {B g : Nat} {a : Option Addr} {len cap gb n c : Nat} {L : List Int} (h : IS w B g a len cap wr gb n c L) : w.heap.size ≤ wr.heap.size := h.ds.gr.size
set_option maxHeartbeats 800000 in
theorem from_any (B g : Nat) (a : Option Addr) (len cap : Nat) (lo hi : Int) (w : World) (hB : B ≤ g) (hl : len ≤ 9223372036854775807) (hc : CurAt w g a len cap) (hr : RdB w B a len) (h1 : -1000000 ≤ lo) (h2 : lo ≤ hi) (h3 : hi ≤ 1000000) :
    Calls Try.prog 29 #[.pointer (some ⟨g, 0, none⟩), .int .i64 lo, .int .i64 hi] w fun e w' => ∃ x, e = .returned (.int .i64 x) ∧ lo ≤ x ∧ x ≤ hi ∧ CurAt w' g a len cap ∧ w.grownBy w' (some g) := by
  have hc' := hide hc
  have hr' := hide hr
  clear hc hr
  go_enter Try.func29, Try.ntmps29
  go_wp2_with fail
  refine (below_any B g a len cap (hi - lo + 1) _ hB hl (unhide hc') (unhide hr') (by omega)).mono ?_
  rintro e w1 ⟨x, rfl, x0, x1, k1, g1⟩
  have k1' := hide k1
  have g1' := hide g1
  clear k1 g1
  go_wp2
  go_ret
  exact ⟨_, rfl, by omega, by omega, unhide k1', unhide g1'⟩
theorem lit_at4 {w : World} {T : TypeId} {a0 a1 a2 a3 : Int} (k : Nat) (hk : k < 4) : ∃ v : Int, (w.alloc (.cells #[.int .i64 a0, .int .i64 a1, .int .i64 a2, .int .i64 a3] T)).cell? ⟨w.heap.size, k, none⟩ = some (.int .i64 v) := by
  have hc : k = 0 ∨ k = 1 ∨ k = 2 ∨ k = 3 := by omega
  rcases hc with rfl | rfl | rfl | rfl
  · exact ⟨a0, by simp [go_sem]⟩
  · exact ⟨a1, by simp [go_sem]⟩
  · exact ⟨a2, by simp [go_sem]⟩
  · exact ⟨a3, by simp [go_sem]⟩
theorem lit_at3 {w : World} {T : TypeId} {a0 a1 a2 : Int} (k : Nat) (hk : k < 3) : ∃ v : Int, (w.alloc (.cells #[.int .i64 a0, .int .i64 a1, .int .i64 a2] T)).cell? ⟨w.heap.size, k, none⟩ = some (.int .i64 v) := by
  have hc : k = 0 ∨ k = 1 ∨ k = 2 := by omega
  rcases hc with rfl | rfl | rfl
  · exact ⟨a0, by simp [go_sem]⟩
  · exact ⟨a1, by simp [go_sem]⟩
  · exact ⟨a2, by simp [go_sem]⟩
/-- an answer that is a list that can be read -/
def AnR (w : World) (M : Nat) (e : Ending) (w' : World) : Prop := ∃ A cap L, e = .returned (.slice A L.length cap) ∧ L.length ≤ M ∧ Ins w' A L ∧ Below w.heap.size w w'
theorem AnR.mk {w w' : World} {M n c : Nat} {A : Option Addr} {L : List Int} (hL : L.length = n) (hn : n ≤ M) (hI : Ins w' A L) (hb : Below w.heap.size w w') : AnR w M (.returned (.slice A n c)) w' := by
  subst hL; exact ⟨A, c, L, rfl, hn, hI, hb⟩

set_option maxHeartbeats 3200000 in
theorem dturn_any (a : Option Addr) (len cap : Nat) (w : World) (hl : len ≤ 9223372036854775807) (hl2 : len ≤ 1000000) (hr : RdB w w.heap.size a len) :
    Calls Try.prog 10 #[.slice a len cap] w (AnR w 17) := by
  have hr' := hide hr
  clear hr
  go_enter Try.func10, Try.ntmps10
  go_wp2_with fail
  refine (new_any a len cap _ hl hl2 (unhide hr')).mono ?_
  rintro e w1 ⟨g, rfl, hg, hc, hb⟩
  have hgl := hc.lt
  have hBw : w.heap.size ≤ w1.heap.size := hb.size
  have hrd : RdB w1 w.heap.size a len := by
    intro j hj
    obtain ⟨b, o, z, e, hb2, hc2, h0, h1⟩ := unhide hr' j hj
    exact ⟨b, o, z, e, hb2, ((bcell hb).1 b _ hb2).trans hc2, h0, h1⟩
  have ds0 : DS w1 w.heap.size g a len cap w1 := ⟨hc, hrd, grown_refl _ _⟩
  have St := hide (show IS w1 w.heap.size g a len cap (w1.alloc (.cells #[] 2)) w1.heap.size 0 0 [] from ⟨ds0.later hg ((Below.refl _ _).alloc (Nat.le_refl _) _), ownI_lit0 w1 (Nat.le_refl _)⟩)
  have H1 := hide hb
  clear hc hrd ds0 hb hr'
  go_wp2
  generalize w1.alloc (.cells #[] 2) = w2 at *
  generalize hGB : w1.heap.size = GB
  have hGB' := hide hGB
  rw [hGB] at St
  clear hGB
  go_loopw [4, 5] (fun s t wr => ∃ (k gb c : Nat) (L : List Int), k ≤ 16 ∧ t = .int .i64 k ∧ s = .slice (some ⟨gb, 0, none⟩) k c ∧ Hid (IS w1 w.heap.size g a len cap wr gb k c L)) (fun _ t _ => 16 - (intOf t).toNat)
  case atStart => exact ⟨0, _, _, [], by omega, rfl, rfl, St⟩
  case round =>
    clear St
    obtain ⟨k, gb, c, L, hk, rfl, rfl, St⟩ := hrel
    by_cases hlt : k < 16
    · go_wp2_with fail
      refine (from_any w.heap.size g a len cap (-255) 255 _ hg hl (unhide St).ds.cur (unhide St).ds.rd (by omega) (by omega) (by omega)).mono ?_
      rintro e w3 ⟨x, rfl, x0, x1, k9, g9⟩
      have St := hide ((unhide St).step hg hgl k9 g9)
      clear k9 g9
      go_wp2_with (refine wpList_iA w3 rfl _ _ rfl w1.heap.size gb k c L x rfl (unhide St).ow rfl (by omega) (unhide St).size ?_)
      intro gb2 c2 w4 h5 h6 h7
      have St := hide ((unhide St).app hBw hgl h6 h5)
      clear h5 h6 h7
      go_wp2
      go_roundw
      case rel => exact ⟨k + 1, gb2, c2, _, by omega, by go_num, rfl, St⟩
      case measure => simp [intOf]; omega
    · have hke : k = 16 := by omega
      subst hke
      go_wp2_with fail
      refine (once_any w.heap.size g a len cap 14 _ hg hl (unhide St).ds.cur (unhide St).ds.rd (by omega)).mono ?_
      rintro e w3 ⟨z, rfl, k9, g9⟩
      have St := hide ((unhide St).step hg hgl k9 g9)
      clear k9 g9
      cases z with
      | false =>
        go_wp2_with fail
        refine (once_any w.heap.size g a len cap 24 _ hg hl (unhide St).ds.cur (unhide St).ds.rd (by omega)).mono ?_
        rintro e wt ⟨z, rfl, k9, g9⟩
        have St := hide ((unhide St).step hg hgl k9 g9)
        clear k9 g9
        cases z with
        | true =>
          go_wp2_with (refine wpList_iA wt rfl _ _ rfl w1.heap.size gb 16 c L 1 rfl (unhide St).ow rfl (by omega) (unhide St).size ?_)
          intro gb2 c2 w5 h5 h6 h7
          have cp := own_cap h5
          have St := hide ((unhide St).app hBw hgl h6 h5)
          clear h5 h6 h7
          go_wp2_with fail
          refine (below_any w.heap.size g a len cap 3 _ hg hl (unhide St).ds.cur (unhide St).ds.rd (by omega)).mono ?_
          rintro e w6 ⟨y, rfl, y0, y1, k9, g9⟩
          have St := hide ((unhide St).step hg hgl k9 g9)
          clear k9 g9
          obtain ⟨j, rfl⟩ := Int.eq_ofNat_of_zero_le y0
          have u1 : (15 : Int) + (j : Int) ≤ c2 := by omega
          have t1 : ((15 : Int) + (j : Int)).toNat = 15 + j := by omega
          go_wp2
          go_ret
          have hL := ownI_len (unhide St).ow
          exact AnR.mk (L := (L ++ [1]).take (15 + j)) (by rw [List.length_take, hL]; omega) (by omega) (ins_take (ins_own (unhide St).ow) _) ((unhide St).low (unhide H1) hg)
        | false =>
          go_wp2
          go_ret
          exact AnR.mk (ownI_len (unhide St).ow) (by omega) (ins_own (unhide St).ow) ((unhide St).low (unhide H1) hg)
      | true =>
        go_wp2_with fail
        refine (below_any w.heap.size g a len cap 16 _ hg hl (unhide St).ds.cur (unhide St).ds.rd (by omega)).mono ?_
        rintro e w4 ⟨i, rfl, i0, i1, k9, g9⟩
        have St := hide ((unhide St).step hg hgl k9 g9)
        clear k9 g9
        obtain ⟨i, rfl⟩ := Int.eq_ofNat_of_zero_le i0
        go_wp2_with fail
        have k5 : Below w4.heap.size w4 (w4.alloc (.cells #[.int .i64 10000000, .int .i64 (-10000000), .int .i64 10000001, .int .i64 (-9223372036854775808)] 2)) := (Below.refl _ _).alloc (Nat.le_refl _) _
        have hlit := hide (fun k hk => lit_at4 (w := w4) (T := 2) (a0 := 10000000) (a1 := -10000000) (a2 := 10000001) (a3 := -9223372036854775808) k hk)
        have zE := (unhide St).size
        have St := hide ((unhide St).later hg k5)
        generalize w4.alloc (.cells #[.int .i64 10000000, .int .i64 (-10000000), .int .i64 10000001, .int .i64 (-9223372036854775808)] 2) = w5 at *
        clear k5
        generalize w4.heap.size = E at *
        refine (below_any w.heap.size g a len cap 4 _ hg hl (unhide St).ds.cur (unhide St).ds.rd (by omega)).mono ?_
        rintro e w6 ⟨y, rfl, y0, y1, k9, g9⟩
        have St := hide ((unhide St).step hg hgl k9 g9)
        obtain ⟨j, rfl⟩ := Int.eq_ofNat_of_zero_le y0
        obtain ⟨v, hv0⟩ := unhide hlit j (by omega)
        have hv := grown_cell g9 (show E ≠ g by omega) hv0
        obtain ⟨v', d0, d1, _, _⟩ := own_at (i := i) (unhide St).ow (by omega)
        clear k9 g9 hv0 hlit
        have St2 := hide ((unhide St).put hBw hgl i v)
        clear St
        have St := St2
        clear St2
        go_wp2_with fail
        clear hv d0 d1
        generalize L.set i v = L at *
        generalize w6.setCell ⟨gb, i, none⟩ (.int .i64 v) = w7 at *
        refine (once_any w.heap.size g a len cap 24 _ hg hl (unhide St).ds.cur (unhide St).ds.rd (by omega)).mono ?_
        rintro e wt ⟨z, rfl, k9, g9⟩
        have St := hide ((unhide St).step hg hgl k9 g9)
        clear k9 g9
        cases z with
        | true =>
          go_wp2_with (refine wpList_iA wt rfl _ _ rfl w1.heap.size gb 16 c L 1 rfl (unhide St).ow rfl (by omega) (unhide St).size ?_)
          intro gb2 c2 w5 h5 h6 h7
          have cp := own_cap h5
          have St := hide ((unhide St).app hBw hgl h6 h5)
          clear h5 h6 h7
          go_wp2_with fail
          refine (below_any w.heap.size g a len cap 3 _ hg hl (unhide St).ds.cur (unhide St).ds.rd (by omega)).mono ?_
          rintro e w6 ⟨y, rfl, y0, y1, k9, g9⟩
          have St := hide ((unhide St).step hg hgl k9 g9)
          clear k9 g9
          obtain ⟨j, rfl⟩ := Int.eq_ofNat_of_zero_le y0
          have u1 : (15 : Int) + (j : Int) ≤ c2 := by omega
          have t1 : ((15 : Int) + (j : Int)).toNat = 15 + j := by omega
          go_wp2
          go_ret
          have hL := ownI_len (unhide St).ow
          exact AnR.mk (L := (L ++ [1]).take (15 + j)) (by rw [List.length_take, hL]; omega) (by omega) (ins_take (ins_own (unhide St).ow) _) ((unhide St).low (unhide H1) hg)
        | false =>
          go_wp2
          go_ret
          exact AnR.mk (ownI_len (unhide St).ow) (by omega) (ins_own (unhide St).ow) ((unhide St).low (unhide H1) hg)

end Go.Proofs.YtcchgjeopmaemaaRRR
