/-
  Contract of the model's draw of sizes, a rate and a room: it answers; nothing that was there is written.
-/
import Derived.Test.YtcchgjeopmaemaaRRRDrT
namespace Go.Proofs.YtcchgjeopmaemaaRRR
open Go.RowKit
set_option linter.unusedVariables false
set_option linter.unusedSimpArgs false

/-- an answer that is a list that can be read, and two numbers -/
def AnR2 (w : World) (M : Nat) (e : Ending) (w' : World) : Prop := ∃ A cap L r m, e = .returned (.tuple #[.slice A L.length cap, .int .i64 r, .int .i64 m]) ∧ L.length ≤ M ∧ Ins w' A L ∧ Below w.heap.size w w'
theorem AnR2.mk {w w' : World} {M n c : Nat} {A : Option Addr} {L : List Int} {r m : Int} (hL : L.length = n) (hn : n ≤ M) (hI : Ins w' A L) (hb : Below w.heap.size w w') : AnR2 w M (.returned (.tuple #[.slice A n c, .int .i64 r, .int .i64 m])) w' := by
  subst hL; exact ⟨A, c, L, r, m, rfl, hn, hI, hb⟩
theorem fl_made (n : Nat) : (madeCells #[.int .i64 0] n).toList = (List.replicate n (0 : Int)).map iv := made_I n

set_option maxHeartbeats 6400000 in
theorem dbuf_any (a : Option Addr) (len cap : Nat) (w : World) (hl : len ≤ 9223372036854775807) (hl2 : len ≤ 1000000) (hr : RdB w w.heap.size a len) :
    Calls Try.prog 14 #[.slice a len cap] w (AnR2 w 1001) := by
  obtain ⟨i0, hi, hz0, hz1, hz2⟩ := info_parts infoI
  have hr' := hide hr
  clear hr
  go_enter Try.func14, Try.ntmps14
  go_wp2_with fail
  refine (new_any a len cap _ hl hl2 (unhide hr')).mono ?_
  rintro e w1 ⟨g, rfl, hg, hc, hb⟩
  have hgl := hc.lt
  have hBw : w.heap.size ≤ w1.heap.size := hb.size
  have hrd : RdB w1 w.heap.size a len := by
    intro j hj
    obtain ⟨b, o, z, e, hb2, hc2, h0, h1⟩ := unhide hr' j hj
    exact ⟨b, o, z, e, hb2, ((bcell hb).1 b _ hb2).trans hc2, h0, h1⟩
  have ds0 : DS w1 w.heap.size g a len cap w1 := ⟨hc, hrd, grown_refl _ _⟩
  have St := hide (show IS w1 w.heap.size g a len cap (w1.alloc (.cells #[] 2)) w1.heap.size 0 0 [] from ⟨ds0.later hg ((Below.refl _ _).alloc (Nat.le_refl _) _), ownI_lit0 w1 (Nat.le_refl _)⟩)
  have H1 := hide hb
  clear hc hrd ds0 hb hr'
  go_wp2_with fail
  generalize w1.alloc (.cells #[] 2) = w2 at *
  generalize hGB : w1.heap.size = GB
  have hGB' := hide hGB
  rw [hGB] at St
  clear hGB
  refine (below_any w.heap.size g a len cap 20 _ hg hl (unhide St).ds.cur (unhide St).ds.rd (by omega)).mono ?_
  rintro e w3 ⟨n, rfl, n0, n1, k9, g9⟩
  have St := hide ((unhide St).step hg hgl k9 g9)
  clear k9 g9
  go_wp2
  go_loopw [6, 7] (fun s t wr => ∃ (k gb c : Nat) (i : Int) (L : List Int), 0 ≤ i ∧ i + k < 20 ∧ t = .int .i64 i ∧ s = .slice (some ⟨gb, 0, none⟩) k c ∧ Hid (IS w1 w.heap.size g a len cap wr gb k c L)) (fun _ t _ => (intOf t).toNat)
  case atStart => exact ⟨0, _, _, n, [], by omega, by omega, rfl, rfl, St⟩
  case round =>
    clear St
    obtain ⟨k, gb, c, i, L, hi0, hk, rfl, rfl, St⟩ := hrel
    by_cases hlt : 0 < i
    · go_wp2_with fail
      refine (below_any w.heap.size g a len cap 60 _ hg hl (unhide St).ds.cur (unhide St).ds.rd (by omega)).mono ?_
      rintro e w3 ⟨x, rfl, x0, x1, k9, g9⟩
      have St := hide ((unhide St).step hg hgl k9 g9)
      clear k9 g9
      go_wp2_with (refine wpList_iA w3 rfl _ _ rfl w1.heap.size gb k c L x rfl (unhide St).ow rfl (by omega) (unhide St).size ?_)
      intro gb2 c2 w4 h5 h6 h7
      have St := hide ((unhide St).app hBw hgl h6 h5)
      clear h5 h6 h7
      go_wp2
      go_roundw
      case rel => exact ⟨k + 1, gb2, c2, i - 1, _, by omega, by omega, rfl, rfl, St⟩
      case measure => simp [intOf]; omega
    · have hke : i = 0 := by omega
      have hk20 : k < 20 := by omega
      subst hke
      clear hk hi0 hlt n0 n1
      go_wp2_with fail
      refine (below_any w.heap.size g a len cap 30 _ hg hl (unhide St).ds.cur (unhide St).ds.rd (by omega)).mono ?_
      rintro e w5 ⟨x, rfl, x0, x1, k9, g9⟩
      have St := hide ((unhide St).step hg hgl k9 g9)
      clear k9 g9
      go_wp2_with fail
      refine (below_any w.heap.size g a len cap 100 _ hg hl (unhide St).ds.cur (unhide St).ds.rd (by omega)).mono ?_
      rintro e w6 ⟨q, rfl, q0, q1, k9, g9⟩
      have St := hide ((unhide St).step hg hgl k9 g9)
      clear k9 g9
      go_wp2_with fail
      refine (once_any w.heap.size g a len cap 16 _ hg hl (unhide St).ds.cur (unhide St).ds.rd (by omega)).mono ?_
      rintro e w7 ⟨z, rfl, k9, g9⟩
      have St := hide ((unhide St).step hg hgl k9 g9)
      clear k9 g9
      cases z with
      | false =>
        go_wp2_with fail
        refine (once_any w.heap.size g a len cap 60 _ hg hl (unhide St).ds.cur (unhide St).ds.rd (by omega)).mono ?_
        rintro e wt ⟨z, rfl, k9, g9⟩
        have St := hide ((unhide St).step hg hgl k9 g9)
        clear k9 g9
        cases z with
        | false =>
          go_wp2
          go_ret3
          exact AnR2.mk (ownI_len (unhide St).ow) (by omega) (ins_own (unhide St).ow) ((unhide St).low (unhide H1) hg)
        | true =>
          go_wp2_with fail
          refine (below_any w.heap.size g a len cap 2 _ hg hl (unhide St).ds.cur (unhide St).ds.rd (by omega)).mono ?_
          rintro e w8 ⟨y, rfl, y0, y1, k9, g9⟩
          have St := hide ((unhide St).step hg hgl k9 g9)
          clear k9 g9
          obtain ⟨j, rfl⟩ := Int.eq_ofNat_of_zero_le y0
          have hsz := (unhide St).size
          go_wp2_with (refine wpList_make_full _ rfl _ _ 24 rfl w1.heap.size 2 i0 (.int .i64 0) 1 Try.underlying24 hi hz0 hz1 .i64 .i64 (1000 + (j : Int)) (1000 + (j : Int)) (1000 + j) rfl rfl (by omega) (by omega) ?b2 ?b3 hsz ?_)
          case b2 => rw [hz2]; omega
          case b3 => unfold maxLen; omega
          intro w9 hown hgn
          have hb9 := (unhide St).low (unhide H1) hg
          have hb10 := hb9.grown hgn hb9.size (fun k hk => by cases hk)
          have hO : OwnI w9 w1.heap.size w8.heap.size (1000 + j) (1000 + j) (List.replicate (1000 + j) 0) := by
            show World.ownsRow _ _ _ _ _ _ _
            rw [← fl_made]; exact hown
          clear hown hgn
          go_wp2
          go_ret3
          exact AnR2.mk (L := List.replicate (1000 + j) 0) (by simp) (by omega) (ins_own hO) hb10
      | true =>
        go_wp2_with fail
        refine (below_any w.heap.size g a len cap 3 _ hg hl (unhide St).ds.cur (unhide St).ds.rd (by omega)).mono ?_
        rintro e wc ⟨s, rfl, s0, s1, k9, g9⟩
        have St := hide ((unhide St).step hg hgl k9 g9)
        clear k9 g9
        have hs : s = 0 ∨ s = 1 ∨ s = 2 := by omega
        rcases hs with rfl | rfl | rfl
        · have h0 : ((0 : Int) == 0) = true := by decide
          go_wp2_with fail
          have k5 : Below wc.heap.size wc (wc.alloc (.cells #[.int .i64 (-1), .int .i64 10000000, .int .i64 10000001] 2)) := (Below.refl _ _).alloc (Nat.le_refl _) _
          have hlit := hide (fun k hk => lit_at3 (w := wc) (T := 2) (a0 := (-1)) (a1 := 10000000) (a2 := 10000001) k hk)
          have zE := (unhide St).size
          have St := hide ((unhide St).later hg k5)
          generalize wc.alloc (.cells #[.int .i64 (-1), .int .i64 10000000, .int .i64 10000001] 2) = wdb at *
          clear k5
          generalize wc.heap.size = E at *
          refine (below_any w.heap.size g a len cap 3 _ hg hl (unhide St).ds.cur (unhide St).ds.rd (by omega)).mono ?_
          rintro e wd ⟨y, rfl, y0, y1, k9, g9⟩
          have St := hide ((unhide St).step hg hgl k9 g9)
          obtain ⟨j, rfl⟩ := Int.eq_ofNat_of_zero_le y0
          obtain ⟨v, hv0⟩ := unhide hlit j (by omega)
          have hv := grown_cell g9 (show E ≠ g by omega) hv0
          have u1 : (j : Int) < 3 := by omega
          clear k9 g9 hv0 hlit
          go_wp2_with (refine wpList_iA wd rfl _ _ rfl w1.heap.size gb k c L v rfl (unhide St).ow rfl (by omega) (unhide St).size ?_)
          intro gb2 c2 we h5 h6 h7
          have St := hide ((unhide St).app hBw hgl h6 h5)
          clear h5 h6 h7 hv
          generalize L ++ [v] = L at *
          go_wp2_with fail
          refine (once_any w.heap.size g a len cap 60 _ hg hl (unhide St).ds.cur (unhide St).ds.rd (by omega)).mono ?_
          rintro e wt ⟨z, rfl, k9, g9⟩
          have St := hide ((unhide St).step hg hgl k9 g9)
          clear k9 g9
          cases z with
          | false =>
            go_wp2
            go_ret3
            exact AnR2.mk (ownI_len (unhide St).ow) (by omega) (ins_own (unhide St).ow) ((unhide St).low (unhide H1) hg)
          | true =>
            go_wp2_with fail
            refine (below_any w.heap.size g a len cap 2 _ hg hl (unhide St).ds.cur (unhide St).ds.rd (by omega)).mono ?_
            rintro e w8 ⟨y, rfl, y0, y1, k9, g9⟩
            have St := hide ((unhide St).step hg hgl k9 g9)
            clear k9 g9
            obtain ⟨j, rfl⟩ := Int.eq_ofNat_of_zero_le y0
            have hsz := (unhide St).size
            go_wp2_with (refine wpList_make_full _ rfl _ _ 24 rfl w1.heap.size 2 i0 (.int .i64 0) 1 Try.underlying24 hi hz0 hz1 .i64 .i64 (1000 + (j : Int)) (1000 + (j : Int)) (1000 + j) rfl rfl (by omega) (by omega) ?b2 ?b3 hsz ?_)
            case b2 => rw [hz2]; omega
            case b3 => unfold maxLen; omega
            intro w9 hown hgn
            have hb9 := (unhide St).low (unhide H1) hg
            have hb10 := hb9.grown hgn hb9.size (fun k hk => by cases hk)
            have hO : OwnI w9 w1.heap.size w8.heap.size (1000 + j) (1000 + j) (List.replicate (1000 + j) 0) := by
              show World.ownsRow _ _ _ _ _ _ _
              rw [← fl_made]; exact hown
            clear hown hgn
            go_wp2
            go_ret3
            exact AnR2.mk (L := List.replicate (1000 + j) 0) (by simp) (by omega) (ins_own hO) hb10
        · have h0 : ((1 : Int) == 0) = false := by decide
          have h1 : ((1 : Int) == 1) = true := by decide
          go_wp2_with fail
          have k5 : Below wc.heap.size wc (wc.alloc (.cells #[.int .i64 0, .int .i64 10000000, .int .i64 10000001] 2)) := (Below.refl _ _).alloc (Nat.le_refl _) _
          have hlit := hide (fun k hk => lit_at3 (w := wc) (T := 2) (a0 := 0) (a1 := 10000000) (a2 := 10000001) k hk)
          have zE := (unhide St).size
          have St := hide ((unhide St).later hg k5)
          generalize wc.alloc (.cells #[.int .i64 0, .int .i64 10000000, .int .i64 10000001] 2) = wdb at *
          clear k5
          generalize wc.heap.size = E at *
          refine (below_any w.heap.size g a len cap 3 _ hg hl (unhide St).ds.cur (unhide St).ds.rd (by omega)).mono ?_
          rintro e wd ⟨y, rfl, y0, y1, k9, g9⟩
          have St := hide ((unhide St).step hg hgl k9 g9)
          obtain ⟨j, rfl⟩ := Int.eq_ofNat_of_zero_le y0
          obtain ⟨v, hv0⟩ := unhide hlit j (by omega)
          have hv := grown_cell g9 (show E ≠ g by omega) hv0
          have u1 : (j : Int) < 3 := by omega
          clear k9 g9 hv0 hlit
          go_wp2_with fail
          clear hv
          refine (once_any w.heap.size g a len cap 60 _ hg hl (unhide St).ds.cur (unhide St).ds.rd (by omega)).mono ?_
          rintro e wt ⟨z, rfl, k9, g9⟩
          have St := hide ((unhide St).step hg hgl k9 g9)
          clear k9 g9
          cases z with
          | false =>
            go_wp2
            go_ret3
            exact AnR2.mk (ownI_len (unhide St).ow) (by omega) (ins_own (unhide St).ow) ((unhide St).low (unhide H1) hg)
          | true =>
            go_wp2_with fail
            refine (below_any w.heap.size g a len cap 2 _ hg hl (unhide St).ds.cur (unhide St).ds.rd (by omega)).mono ?_
            rintro e w8 ⟨y, rfl, y0, y1, k9, g9⟩
            have St := hide ((unhide St).step hg hgl k9 g9)
            clear k9 g9
            obtain ⟨j, rfl⟩ := Int.eq_ofNat_of_zero_le y0
            have hsz := (unhide St).size
            go_wp2_with (refine wpList_make_full _ rfl _ _ 24 rfl w1.heap.size 2 i0 (.int .i64 0) 1 Try.underlying24 hi hz0 hz1 .i64 .i64 (1000 + (j : Int)) (1000 + (j : Int)) (1000 + j) rfl rfl (by omega) (by omega) ?b2 ?b3 hsz ?_)
            case b2 => rw [hz2]; omega
            case b3 => unfold maxLen; omega
            intro w9 hown hgn
            have hb9 := (unhide St).low (unhide H1) hg
            have hb10 := hb9.grown hgn hb9.size (fun k hk => by cases hk)
            have hO : OwnI w9 w1.heap.size w8.heap.size (1000 + j) (1000 + j) (List.replicate (1000 + j) 0) := by
              show World.ownsRow _ _ _ _ _ _ _
              rw [← fl_made]; exact hown
            clear hown hgn
            go_wp2
            go_ret3
            exact AnR2.mk (L := List.replicate (1000 + j) 0) (by simp) (by omega) (ins_own hO) hb10
        · have h0 : ((2 : Int) == 0) = false := by decide
          have h1 : ((2 : Int) == 1) = false := by decide
          have h2 : ((2 : Int) == 2) = true := by decide
          go_wp2_with fail
          have k5 : Below wc.heap.size wc (wc.alloc (.cells #[.int .i64 0, .int .i64 10000000, .int .i64 10000001] 2)) := (Below.refl _ _).alloc (Nat.le_refl _) _
          have hlit := hide (fun k hk => lit_at3 (w := wc) (T := 2) (a0 := 0) (a1 := 10000000) (a2 := 10000001) k hk)
          have zE := (unhide St).size
          have St := hide ((unhide St).later hg k5)
          generalize wc.alloc (.cells #[.int .i64 0, .int .i64 10000000, .int .i64 10000001] 2) = wdb at *
          clear k5
          generalize wc.heap.size = E at *
          refine (below_any w.heap.size g a len cap 3 _ hg hl (unhide St).ds.cur (unhide St).ds.rd (by omega)).mono ?_
          rintro e wd ⟨y, rfl, y0, y1, k9, g9⟩
          have St := hide ((unhide St).step hg hgl k9 g9)
          obtain ⟨j, rfl⟩ := Int.eq_ofNat_of_zero_le y0
          obtain ⟨v, hv0⟩ := unhide hlit j (by omega)
          have hv := grown_cell g9 (show E ≠ g by omega) hv0
          have u1 : (j : Int) < 3 := by omega
          clear k9 g9 hv0 hlit
          go_wp2_with fail
          clear hv
          refine (once_any w.heap.size g a len cap 60 _ hg hl (unhide St).ds.cur (unhide St).ds.rd (by omega)).mono ?_
          rintro e wt ⟨z, rfl, k9, g9⟩
          have St := hide ((unhide St).step hg hgl k9 g9)
          clear k9 g9
          cases z with
          | false =>
            go_wp2
            go_ret3
            exact AnR2.mk (ownI_len (unhide St).ow) (by omega) (ins_own (unhide St).ow) ((unhide St).low (unhide H1) hg)
          | true =>
            go_wp2_with fail
            refine (below_any w.heap.size g a len cap 2 _ hg hl (unhide St).ds.cur (unhide St).ds.rd (by omega)).mono ?_
            rintro e w8 ⟨y, rfl, y0, y1, k9, g9⟩
            have St := hide ((unhide St).step hg hgl k9 g9)
            clear k9 g9
            obtain ⟨j, rfl⟩ := Int.eq_ofNat_of_zero_le y0
            have hsz := (unhide St).size
            go_wp2_with (refine wpList_make_full _ rfl _ _ 24 rfl w1.heap.size 2 i0 (.int .i64 0) 1 Try.underlying24 hi hz0 hz1 .i64 .i64 (1000 + (j : Int)) (1000 + (j : Int)) (1000 + j) rfl rfl (by omega) (by omega) ?b2 ?b3 hsz ?_)
            case b2 => rw [hz2]; omega
            case b3 => unfold maxLen; omega
            intro w9 hown hgn
            have hb9 := (unhide St).low (unhide H1) hg
            have hb10 := hb9.grown hgn hb9.size (fun k hk => by cases hk)
            have hO : OwnI w9 w1.heap.size w8.heap.size (1000 + j) (1000 + j) (List.replicate (1000 + j) 0) := by
              show World.ownsRow _ _ _ _ _ _ _
              rw [← fl_made]; exact hown
            clear hown hgn
            go_wp2
            go_ret3
            exact AnR2.mk (L := List.replicate (1000 + j) 0) (by simp) (by omega) (ins_own hO) hb10

end Go.Proofs.YtcchgjeopmaemaaRRR
