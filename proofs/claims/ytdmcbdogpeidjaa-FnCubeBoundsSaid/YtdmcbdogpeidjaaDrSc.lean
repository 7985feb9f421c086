/-
  The model's draw of a list of colours: its contract; the law's comparison of two lists of numbers.
-/
import Derived.Test.YtdmcbdogpeidjaaDrV
namespace Go.Proofs.Ytdmcbdogpeidjaa
open Go.RowKit
set_option linter.unusedVariables false
set_option linter.unusedSimpArgs false

set_option maxHeartbeats 400000 in
theorem big_any (a : Option Addr) (len cap : Nat) (v : Bool) (w : World) (hv : decide (4096 < len) = v) :
    Calls Try.prog 11 #[.slice a len cap] w fun e w' => e = .returned (.bool v) ∧ w' = w := by
  subst hv
  go_enter Try.func11, Try.ntmps11
  go_wp2
  go_ret
  exact ⟨ret_bool (by rw [Bool.eq_iff_iff]; simp; omega), rfl⟩

theorem CurAt.blw {w w1 : World} {g : Nat} {a : Option Addr} {len cap : Nat} (h : CurAt w g a len cap) (hb : Below (g + 1) w w1) : CurAt w1 g a len cap := h.other (hb.block g (by omega))
theorem RdB.blw {w w1 : World} {B C : Nat} {a : Option Addr} {len : Nat} (h : RdB w B a len) (hb : Below C w w1) (hC : B ≤ C) : RdB w1 B a len := by
  intro j hj
  obtain ⟨b, o, z, e, hb', hc, h0, h1⟩ := h j hj
  exact ⟨b, o, z, e, hb', (hb.cell (p := ⟨b, o + j, none⟩) (by simp; omega)).trans hc, h0, h1⟩
theorem bel_cur {w wr w1 : World} {g : Nat} (h : Below w.heap.size w wr) (hg : wr.grownBy w1 (some g)) (hwg : w.heap.size ≤ g) : Below w.heap.size w w1 := h.grown hg h.size (fun k hk => by injection hk with hk; omega)

/-- the state while colours are drawn into a list of their own, behind the cursor -/
structure DL (w : World) (g : Nat) (a : Option Addr) (len cap : Nat) (wr : World) (r c : Nat) (L : List Kl) : Prop where
  own : Own wr (g + 1) r L.length c L
  cur : CurAt wr g a len cap
  rd : RdB wr w.heap.size a len
  bel : Below w.heap.size w wr
theorem DL.call {w wr w1 : World} {g r c : Nat} {a : Option Addr} {len cap : Nat} {L : List Kl} (h : DL w g a len cap wr r c L) (hwg : w.heap.size ≤ g) (hc : CurAt w1 g a len cap) (hg : wr.grownBy w1 (some g)) : DL w g a len cap w1 r c L :=
  ⟨own_kept h.own hg (by have := own_ge h.own; omega), hc, h.rd.grown hg hwg, bel_cur h.bel hg hwg⟩
theorem DL.row {w wr w1 : World} {g r c r' c' : Nat} {a : Option Addr} {len cap : Nat} {L L' : List Kl} (h : DL w g a len cap wr r c L) (hwg : w.heap.size ≤ g) (ho : Own w1 (g + 1) r' L'.length c' L') (hb : Below (g + 1) wr w1) : DL w g a len cap w1 r' c' L' :=
  ⟨ho, h.cur.blw hb, h.rd.blw hb (by omega), h.bel.trans (hb.mono (by omega))⟩

theorem made_list {n : Nat} : (List.replicate n ((0, 0, 0) : Kl)).length = n := by simp

set_option maxHeartbeats 3200000 in
theorem dsc_any (a : Option Addr) (len cap : Nat) (w : World) (hl : len ≤ 4096) (hr : RdB w w.heap.size a len) :
    Calls Try.prog 15 #[.slice a len cap] w fun e w' => ∃ (r c : Nat) (L : List Kl), e = .returned (.slice (some ⟨r, 0, none⟩) L.length c) ∧ L.length ≤ 5000 ∧ Own w' w.heap.size r L.length c L ∧ Below w.heap.size w w' := by
  have hr' := hide hr
  clear hr
  obtain ⟨i0, hi, hz0, hz1, hz2⟩ := info_parts info44
  go_enter Try.func15, Try.ntmps15
  go_wp2_with fail
  refine (new_any a len cap _ (by omega) (by omega) (unhide hr')).mono ?_
  rintro e w1 ⟨g, rfl, hwg, hc1, hb1⟩
  have gl := hc1.lt
  have hal : Below w1.heap.size w1 (w1.alloc (.cells #[] 26)) := (Below.refl _ _).alloc (Nat.le_refl _) _
  have D1 : Hid (DL w g a len cap (w1.alloc (.cells #[] 26)) w1.heap.size 0 []) := hide ⟨own_lit0 w1 (by omega), hc1.below hal, (((unhide hr').blw hb1 (Nat.le_refl _)).blw hal hb1.size), laterB hb1 hal⟩
  clear hal hc1 hb1 hr'
  go_wp2_with fail
  refine (below_any w.heap.size g a len cap 20 _ hwg (by omega) (unhide D1).cur (unhide D1).rd (by omega)).mono ?_
  rintro e w2 ⟨x, rfl, x0, x1, k2, g2⟩
  have D2 := hide ((unhide D1).call hwg k2 g2)
  clear D1 k2 g2
  obtain ⟨m, rfl⟩ := Int.eq_ofNat_of_zero_le x0
  generalize w1.heap.size = r0 at *
  go_wp2
  go_loopw [4, 5] (fun s t wr => ∃ (k r c : Nat) (L : List Kl), t = .int .i64 k ∧ s = .slice (some ⟨r, 0, none⟩) L.length c ∧ k + L.length ≤ 20 ∧ Hid (DL w g a len cap wr r c L)) (fun _ t _ => (intOf t).toNat)
  case atStart => exact ⟨m, r0, 0, [], rfl, rfl, by simp; omega, D2⟩
  case round =>
    clear D2
    obtain ⟨k, r, c, L, rfl, rfl, hkL, hD⟩ := hrel
    by_cases hk : 0 < k
    · have hkd : decide ((0 : Int) < k) = true := by simp; omega
      have hkd2 : decide (0 < k) = true := by simpa using hk
      go_wp2_with fail
      refine (drgb_any w.heap.size g a len cap _ hwg (unhide hD).bel.size (by omega) (unhide hD).cur (unhide hD).rd).mono ?_
      rintro e w3 ⟨x, y, z, rfl, ly, lz, k3, g3⟩
      have D3 := hide ((unhide hD).call hwg k3 g3)
      clear hD k3 g3 ly lz
      have hgw : g < w3.heap.size := (unhide D3).cur.lt
      have hrw : r < w3.heap.size := own_lt (unhide D3).own
      go_wp2_with (at_builtin; refine wpList_kN Try.underlying24 (X := w3) (wr := w3) (C := w3.heap.size) (B := g + 1) (g := r) (n := L.length) (cap := c) (L := L) rfl _ _ rfl rfl (unhide D3).own (Below.refl _ _) hrw w3.heap.size rfl rfl (by omega) (by omega) (by omega) ?_)
      intro r' c' w' ho' hb' hge' hlt'
      have hlen : (L ++ [(x, y, z)]).length = L.length + 1 := by simp
      have D4 : Hid (DL w g a len cap w' r' c' (L ++ [(x, y, z)])) := hide ((unhide D3).row hwg (by rw [hlen]; exact ho') hb')
      have hlen' := hide hlen
      clear D3 ho' hb' hlen
      go_wp2
      go_roundw
      case rel => exact ⟨k - 1, r', c', L ++ [(x, y, z)], by go_num, by rw [unhide hlen'], by rw [unhide hlen']; omega, D4⟩
      case measure => simp [intOf]; omega
    · have hk0 : k = 0 := by omega
      subst hk0
      clear hk
      go_wp2_with fail
      refine (once_any w.heap.size g a len cap 60 _ hwg (by omega) (unhide hD).cur (unhide hD).rd (by omega)).mono ?_
      rintro e w3 ⟨v, rfl, k3, g3⟩
      have D3 := hide ((unhide hD).call hwg k3 g3)
      clear hD k3 g3
      cases v
      · go_wp2
        go_ret
        exact ⟨r, c, L, rfl, by omega, own_mono (unhide D3).own (by omega), (unhide D3).bel⟩
      · go_wp2_with fail
        refine (below_any w.heap.size g a len cap 2 _ hwg (by omega) (unhide D3).cur (unhide D3).rd (by omega)).mono ?_
        rintro e w4 ⟨x, rfl, x0, x1, k4, g4⟩
        have D4 := hide ((unhide D3).call hwg k4 g4)
        clear D3 k4 g4
        obtain ⟨q, rfl⟩ := Int.eq_ofNat_of_zero_le x0
        have hq : Hid ((4096 : Int) + q = ((4096 + q : Nat) : Int)) := hide (by omega)
        go_wp2_with (refine wpList_make_full _ rfl _ _ 24 rfl w4.heap.size 26 i0 _ 3 Try.underlying24 hi hz0 hz1 .i64 .i64 _ _ (4096 + q) rfl rfl (by first | rfl | (rw [← unhide hq]; rfl)) (by first | rfl | (rw [← unhide hq]; rfl)) ?b2 ?b3 (Nat.le_refl _) ?_)
        case b2 => rw [hz2]; omega
        case b3 => unfold maxLen; omega
        intro w5 hown hg
        have hb5 : Below w4.heap.size w4 w5 := (Below.refl _ _).grown hg (Nat.le_refl _) (fun k hk => by cases hk)
        have hs4 := (unhide D4).bel.size
        have hO : Hid (Own w5 w.heap.size w4.heap.size (4096 + q) (4096 + q) (List.replicate (4096 + q) (0, 0, 0))) := hide (by
          show World.ownsRow _ _ _ _ _ _ _
          rw [← made_flK]; exact own_mono hown hs4)
        have H5 := hide (laterB (unhide D4).bel hb5)
        clear hown hg hb5 D4
        go_wp2
        go_ret
        refine ⟨w4.heap.size, 4096 + q, List.replicate (4096 + q) (0, 0, 0), ?_, ?_, ?_, unhide H5⟩
        · rw [made_list]; rfl
        · rw [made_list]; omega
        · rw [made_list]; exact unhide hO

set_option maxHeartbeats 800000 in
theorem same_any (a b : Option Addr) (ca cb : Nat) (l : List Int) (w : World) (hl : l.length ≤ 1048576) (ha : Ins w a l) (hb : Ins w b l) :
    Calls Try.prog 17 #[.slice a l.length ca, .slice b l.length cb] w fun e w' => e = .returned (.bool true) ∧ Below w.heap.size w w' := by
  have ha' := hide ha
  have hb' := hide hb
  clear ha hb
  have hne : ((l.length : Int) != l.length) = false := by simp
  go_enter Try.func17, Try.ntmps17
  go_wp2
  go_loopw [5] (fun t wr => ∃ k : Nat, k ≤ l.length ∧ t = .int .i64 k ∧ Hid (Below w.heap.size w wr)) (fun t _ => l.length - (intOf t).toNat)
  case atStart => exact ⟨0, by omega, rfl, hide (Below.refl _ _)⟩
  case round =>
    obtain ⟨k, hk, rfl, hw⟩ := hrel
    by_cases hlt : k < l.length
    · obtain ⟨b1, o1, x, rfl, hx, i1, c0⟩ := ins_at (unhide ha') (unhide hw) hlt
      obtain ⟨b2, o2, y, rfl, hy, i2, d0⟩ := ins_at (unhide hb') (unhide hw) hlt
      rw [hx] at hy
      injection hy with hy
      subst hy
      have e1 : (x != x) = false := by simp
      clear hx i1 i2
      go_wp2_with fail
      go_quiet (fail)
      go_wp2
      go_roundw
      case rel => exact ⟨k + 1, by omega, by go_num, hide (below_drewN (unhide hw) _)⟩
      case measure => simp [intOf]; omega
    · have hke : k = l.length := by omega
      go_wp2
      go_ret
      exact ⟨rfl, unhide hw⟩
end Go.Proofs.Ytdmcbdogpeidjaa
