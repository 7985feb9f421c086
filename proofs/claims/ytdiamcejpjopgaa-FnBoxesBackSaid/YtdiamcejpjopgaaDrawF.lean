/-
  Contract of the model's draw of boxes and a path, over its draw of boxes: it gives some list of its own, and some path.
-/
import Derived.Test.YtdiamcejpjopgaaLawFd
import Derived.Test.YtdiamcejpjopgaaDraw
import Derived.Deep.CutBlock
namespace Go.Proofs.Ytdiamcejpjopgaa
open Go.RowKit
set_option linter.unusedVariables false
set_option linter.unusedSimpArgs false

/-- what a draw of boxes gives -/
def DrB : Prop := ∀ (Bc g : Nat) (a : Option Addr) (len cap : Nat) (w : World), Bc ≤ g → len ≤ 4096 → CurAt w g a len cap → RdB w Bc a len →
  Calls Try.prog 45 #[.pointer (some ⟨g, 0, none⟩)] w fun e w' => ∃ v L, e = .returned v ∧ OwnL w' w.heap.size v L ∧ L.length ≤ 1000 ∧ (∀ p ∈ L, p.1.k.size ≤ 5 ∧ p.1.z.length ≤ 20001) ∧ CurAt w' g a len cap ∧ w.grownBy w' (some g)
theorem tab {w2 : World} {blk : Nat} {xs : Array Value} {t : TypeId} {j N : Nat} (hb : w2.heap[blk]? = some (.cells xs t)) (hall : ∀ v ∈ xs.toList, ∃ s : ByteArray, v = .string s ∧ s.size ≤ N) (hj : j < xs.size) : ∃ s : ByteArray, w2.cell? ⟨blk, j, none⟩ = some (.string s) ∧ s.size ≤ N := by
  rw [cell_of_row _ _ _ _ _ _ hb]
  obtain ⟨s, hs, hn⟩ := hall xs[j] (by simp)
  exact ⟨s, by rw [Array.getElem?_eq_getElem hj, hs], hn⟩

/-- where a draw of a path stands: the cursor, its bytes, the list that was drawn -/
structure DSt (w1 : World) (B0 g : Nat) (a : Option Addr) (len cap : Nat) (v : Value) (L : List (Bx × (Option Addr × Nat))) (wx : World) : Prop where
  cur : CurAt wx g a len cap
  rd : RdB wx B0 a len
  gr : w1.grownBy wx (some g)
  own : OwnL wx w1.heap.size v L
theorem DSt.call {w1 wx wy : World} {B0 g len cap : Nat} {a : Option Addr} {v : Value} {L : List (Bx × (Option Addr × Nat))} (h : DSt w1 B0 g a len cap v L wx) (hg : B0 ≤ g) (hgl : g < w1.heap.size) (k : CurAt wy g a len cap) (gg : wx.grownBy wy (some g)) : DSt w1 B0 g a len cap v L wy :=
  ⟨k, h.rd.grown gg hg, grown_trans h.gr gg, h.own.kept gg.size (fun b h0 h1 => gg.block b h1 (fun e => by have := Option.some.inj e; omega))⟩
theorem DSt.alloc {w1 wx : World} {B0 g len cap : Nat} {a : Option Addr} {v : Value} {L : List (Bx × (Option Addr × Nat))} (h : DSt w1 B0 g a len cap v L wx) (hg : B0 ≤ g) (hgl : g < w1.heap.size) (o : Obj) : DSt w1 B0 g a len cap v L (wx.alloc o) :=
  h.call hg hgl (h.cur.below ((Below.refl _ _).alloc (Nat.le_refl _) _)) (grown_below ((Below.refl _ _).alloc (Nat.le_refl _) _))

theorem dfin {w w1 wx : World} {g len cap : Nat} {a : Option Addr} {v : Value} {L : List (Bx × (Option Addr × Nat))} (hg : w.heap.size ≤ g) (B1 : Below w.heap.size w w1) (D : DSt w1 w.heap.size g a len cap v L wx) (hL : L.length ≤ 1000) (hgood : ∀ p ∈ L, p.1.k.size ≤ 5 ∧ p.1.z.length ≤ 20001) (pp : ByteArray) (hp : pp.size ≤ 1048576) :
    ∃ v' L' p', Ending.returned (.tuple #[v, .string pp]) = .returned (.tuple #[v', .string p']) ∧ OwnL wx w.heap.size v' L' ∧ L'.length ≤ 1048576 ∧ Small 1048576 (L'.map (·.1)) ∧ p'.size ≤ 1048576 ∧ Below w.heap.size w wx := by
  refine ⟨v, L, pp, rfl, D.own.mono B1.size, by omega, ?_, hp, B1.grown D.gr B1.size (fun k hk => by have := Option.some.inj hk; omega)⟩
  intro x hx
  obtain ⟨q, hq, rfl⟩ := List.mem_map.1 hx
  have := hgood q hq
  omega

set_option maxRecDepth 100000 in
set_option maxHeartbeats 1600000 in
theorem drawF (hdb : DrB) : DrF := by
  intro a cap zs w hl hr
  have hdb' := hide hdb
  have hr0 : RdB w w.heap.size a zs.length := by
    intro j hj
    obtain ⟨b, o, e, _, hb, hc, z0, z1, _⟩ := hr j zs[j] (List.getElem?_eq_getElem hj)
    exact ⟨b, o, _, e, hb, hc, z0, z1⟩
  have hr' := hide hr0
  clear hr hdb hr0
  go_enter Try.func19, Try.ntmps19
  go_wp2_with fail
  refine (new_any a zs.length cap _ (by omega) (by omega) (unhide hr')).mono ?_
  rintro e w1 ⟨g, rfl, hg, k1, b1⟩
  have hgl := k1.lt
  have z1 := b1.size
  have r1 : RdB w1 w.heap.size a zs.length := fun j hj => by
    obtain ⟨b, o, z, e, hb, hc, h0, h1⟩ := unhide hr' j hj
    exact ⟨b, o, z, e, hb, by rw [(bcell b1).1 _ _ hb]; exact hc, h0, h1⟩
  have R1 := hide r1
  have K1 := hide k1
  have B1 := hide b1
  clear r1 k1 b1
  go_wp2_with fail
  refine (unhide hdb' w.heap.size g a zs.length cap _ hg hl (unhide K1) (unhide R1)).mono ?_
  rintro e w2 ⟨v, L, rfl, own2, hL, hgood, k2, g2⟩
  obtain ⟨av, capv, hv, _, _, _, hbx, _⟩ := own2.bxs
  subst hv
  have z2 := g2.size
  have K2 := hide k2
  have R2 := hide ((unhide R1).grown g2 hg)
  have own2' := hide own2
  have hgood' := hide hgood
  have G2 := hide g2
  clear k2 own2 hgood g2 K1 R1 hbx
  go_wp2_with fail
  refine (below_any w.heap.size g a zs.length cap 3 _ hg (by omega) (unhide K2) (unhide R2) (by omega)).mono ?_
  rintro e w3 ⟨x3, rfl, x30, x31, k3, g3⟩
  obtain ⟨n3, rfl⟩ := Int.eq_ofNat_of_zero_le x30
  have D3 : Hid (DSt w1 w.heap.size g a zs.length cap (.slice av L.length capv) L w3) := hide (DSt.call ⟨unhide K2, unhide R2, unhide G2, unhide own2'⟩ hg hgl k3 g3)
  clear k3 g3 K2 R2 G2 own2'
  go_wp2
  go_loopw [6, 7] (fun s t wr => ∃ (n : Nat) (p : ByteArray), s = .string p ∧ t = .int .i64 n ∧ p.size + 5 * n ≤ 15 ∧ Hid (DSt w1 w.heap.size g a zs.length cap (.slice av L.length capv) L wr)) (fun _ t _ => (intOf t).toNat)
  case atStart => exact ⟨1 + n3, ByteArray.empty, rfl, by go_num, by have : ByteArray.empty.size = 0 := rfl; omega, D3⟩
  case round =>
    clear D3
    obtain ⟨n, p, rfl, rfl, hn, hD⟩ := hrel
    by_cases hpos : 0 < n
    · obtain ⟨m, rfl⟩ : ∃ m, n = m + 1 := ⟨n - 1, by omega⟩
      go_upto_if 23 with fail
      go_cut [6] from 18 to 32 (fun s wx => ∃ p2 : ByteArray, s = .string p2 ∧ p2.size ≤ p.size + 1 ∧ wx = wr)
      case first =>
        go_wp2
        all_goals
          go_meet
          first | exact ⟨_, rfl, by rw [ByteArray.size_append]; exact Nat.add_le_add_left (by decide) _, rfl⟩ | exact ⟨_, rfl, by omega, rfl⟩
      case rest =>
        obtain ⟨p2, h6, hp2, hwc⟩ := hcut
        subst h6 hwc
        have zc := (unhide hD).gr.size
        go_wp2_with fail
        refine (below_any w.heap.size g a zs.length cap 6 _ hg (by omega) ((unhide hD).alloc hg hgl _).cur ((unhide hD).alloc hg hgl _).rd (by omega)).mono ?_
        rintro e w4 ⟨x4, rfl, x40, x41, k4, g4⟩
        obtain ⟨j, rfl⟩ := Int.eq_ofNat_of_zero_le x40
        have hbk := (g4.block wc.heap.size (by simp) (by intro e; have := Option.some.inj e; omega)).trans (heap_alloc_new wc _)
        obtain ⟨s, hs, hsn⟩ := tab (j := j) (N := 4) hbk (by intro v hv; simp at hv; rcases hv with rfl | rfl | rfl | rfl | rfl | rfl <;> exact ⟨_, rfl, by decide⟩) (by simp; omega)
        have D4 := hide (((unhide hD).alloc hg hgl _).call hg hgl k4 g4)
        clear hbk k4 g4 hD
        go_wp2
        go_roundw
        case rel => exact ⟨m, p2 ++ s, rfl, by go_num, by rw [ByteArray.size_append]; omega, D4⟩
        case measure => simp [intOf]
    · obtain rfl : n = 0 := by omega
      have hpl : p.size ≤ 15 := by omega
      clear hpos hn
      go_upto_region 10 with fail
      go_cut [39] from 33 (fun c wx => ∃ b : Bool, c = .bool b ∧ (b = true → 0 < L.length) ∧ Hid (DSt w1 w.heap.size g a zs.length cap (.slice av L.length capv) L wx))
      case first =>
        go_wp2_with fail
        refine (once_any w.heap.size g a zs.length cap 2 _ hg (by omega) (unhide hD).cur (unhide hD).rd (by omega)).mono ?_
        rintro e w5 ⟨x5, rfl, k5, g5⟩
        have D5 := hide ((unhide hD).call hg hgl k5 g5)
        clear k5 g5 hD
        cases x5
        · go_wp2
          go_meet
          exact ⟨false, rfl, by simp, D5⟩
        · go_wp2
          go_meet
          first | exact ⟨decide (0 < L.length), rfl, of_decide_eq_true, D5⟩ | exact ⟨decide ((0 : Int) < (L.length : Int)), rfl, fun h => by have := of_decide_eq_true h; omega, D5⟩
      case rest =>
        obtain ⟨bb, h39, hL0, D5⟩ := hcut
        subst h39
        clear hD
        go_upto_if 39 with fail
        go_cut [6] from 33 (fun s wx => ∃ p2 : ByteArray, s = .string p2 ∧ p2.size ≤ 7000 ∧ Hid (DSt w1 w.heap.size g a zs.length cap (.slice av L.length capv) L wx))
        case first =>
          cases bb
          · go_wp2
            go_meet
            exact ⟨p, rfl, by omega, D5⟩
          · have hLp := hL0 rfl
            clear hL0
            go_wp2_with fail
            refine (below_any w.heap.size g a zs.length cap L.length _ hg (by omega) (unhide D5).cur (unhide D5).rd (by omega)).mono ?_
            rintro e w6 ⟨x6, rfl, x60, x61, k6, g6⟩
            obtain ⟨q, rfl⟩ := Int.eq_ofNat_of_zero_le x60
            have D6 := hide ((unhide D5).call hg hgl k6 g6)
            have hq : q < L.length := by omega
            obtain ⟨av', capv', hv', _, _, _, hbx, _⟩ := (unhide D6).own.bxs
            injection hv' with e1 e2 e3
            subst e1 e3
            have hbx' := hide hbx
            clear hbx k6 g6 D5
            obtain ⟨pq, hpq⟩ : ∃ pq, L[q]? = some pq := ⟨L[q], List.getElem?_eq_getElem hq⟩
            obtain ⟨b, o, rfl, h1, h2, c0, c1, c2, hrow, k1, d0, d1, q1, q2, _⟩ := unhide hbx' q pq.1 (by rw [List.getElem?_map, hpq]; rfl)
            have hpk := (unhide hgood' pq (List.mem_of_getElem? hpq)).1
            clear c2 hrow q1 q2 k1
            go_wp2
            go_loopw [6, 9, 10] (fun s d t wr => ∃ (p : ByteArray) (dd i : Int), s = .string p ∧ d = .int .i64 dd ∧ t = .int .i64 i ∧ -1 ≤ i ∧ i < L.length ∧ (p.size : Int) + 6 * (i + 1) ≤ 6010 ∧ wr = w6) (fun _ _ t _ => (intOf t + 1).toNat)
            case atStart => exact ⟨_, _, _, rfl, rfl, rfl, by omega, by omega, by omega, rfl⟩
            case round =>
              clear c0 c1
              obtain ⟨p, dd, i, rfl, rfl, rfl, i0, i1, hp, rfl⟩ := hrel
              by_cases hi : i < 0
              · go_wp2
                go_meet
                exact ⟨p, rfl, by omega, D6⟩
              · obtain ⟨r, rfl⟩ := Int.eq_ofNat_of_zero_le (by omega : 0 ≤ i)
                have hr2 : r < L.length := by omega
                obtain ⟨pr, hpr⟩ : ∃ pr, L[r]? = some pr := ⟨L[r], List.getElem?_eq_getElem hr2⟩
                obtain ⟨b', o', hbo, _, _, c0, c1, _, _, _, _, _, _, _, _⟩ := unhide hbx' r pr.1 (by rw [List.getElem?_map, hpr]; rfl)
                injection hbo with hbo
                injection hbo with eb eo' _
                subst eb eo'
                have hrk := (unhide hgood' pr (List.mem_of_getElem? hpr)).1
                cases hE : (pr.1.d == wrap64 (dd - 1))
                · go_wp2
                  go_roundw
                  case rel => exact ⟨p, dd, (r : Int) - 1, rfl, rfl, by go_num, by omega, by omega, by omega, trivial⟩
                  case measure => simp [intOf]
                · go_wp2
                  go_roundw
                  case rel => exact ⟨_, _, (r : Int) - 1, rfl, rfl, by go_num, by omega, by omega, by simp only [ByteArray.size_append]; have : ({ data := #[47] } : ByteArray).size = 1 := rfl; omega, trivial⟩
                  case measure => simp [intOf]
        case rest =>
          obtain ⟨p2, h6, hp2, D7⟩ := hcut
          subst h6
          clear D5
          go_wp2_with fail
          refine (once_any w.heap.size g a zs.length cap 14 _ hg (by omega) (unhide D7).cur (unhide D7).rd (by omega)).mono ?_
          rintro e w8 ⟨x8, rfl, k8, g8⟩
          have D8 := hide ((unhide D7).call hg hgl k8 g8)
          clear k8 g8 D7
          cases x8
          · go_wp2
            exact bodyPost_ret (v := .tuple #[.slice av L.length capv, .string p2]) (by simp [results, Try.results19, go_sem]) rfl (dfin hg (unhide B1) (unhide D8) hL (unhide hgood') p2 (by omega))
          · have zc := (unhide D8).gr.size
            go_wp2_with fail
            refine (below_any w.heap.size g a zs.length cap 6 _ hg (by omega) ((unhide D8).alloc hg hgl _).cur ((unhide D8).alloc hg hgl _).rd (by omega)).mono ?_
            rintro e w9 ⟨x9, rfl, x90, x91, k9, g9⟩
            obtain ⟨j, rfl⟩ := Int.eq_ofNat_of_zero_le x90
            have hbk := (g9.block w8.heap.size (by simp) (by intro e; have := Option.some.inj e; omega)).trans (heap_alloc_new w8 _)
            obtain ⟨s, hs, hsn⟩ := tab (j := j) (N := 7001) hbk (by intro v hv; simp at hv; rcases hv with rfl | rfl | rfl | rfl | rfl | rfl <;> first | exact ⟨_, rfl, by decide⟩ | exact ⟨_, rfl, by rw [ByteArray.size_append]; have : ({ data := #[120] } : ByteArray).size = 1 := rfl; omega⟩) (by simp; omega)
            have D9 := hide (((unhide D8).alloc hg hgl _).call hg hgl k9 g9)
            clear hbk k9 g9 D8
            go_wp2
            exact bodyPost_ret (v := .tuple #[.slice av L.length capv, .string s]) (by simp [results, Try.results19, go_sem]) rfl (dfin hg (unhide B1) (unhide D9) hL (unhide hgood') s (by omega))
end Go.Proofs.Ytdiamcejpjopgaa
