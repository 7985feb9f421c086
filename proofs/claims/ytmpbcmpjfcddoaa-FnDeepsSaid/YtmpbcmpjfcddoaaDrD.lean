/-
  Contract of the model's draw of a list of samples, over a cursor on bytes that came in: the list is new memory; what was there but for the cursor stays.
-/
import Derived.Test.YtmpbcmpjfcddoaaDrX
import Derived.Test.YtmpbcmpjfcddoaaMemL
namespace Go.Proofs.Ytmpbcmpjfcddoaa
open Go.RowKit
open D (grown_trans grown_set grown_refl)
set_option linter.unusedVariables false
set_option linter.unusedSimpArgs false
def slen : Value → Nat
  | .slice _ n _ => n
  | _ => 0
/-- the draw's state: the cursor, and a list of its own -/
structure Dd (w : World) (B g : Nat) (a : Option Addr) (len cap G n c : Nat) (L : List D.Kl) (wr : World) : Prop where
  ds : DS w B g a len cap wr
  own : D.Own wr w.heap.size G n c L
section
variable {w wr w1 : World} {B g len cap G n c : Nat} {a : Option Addr} {L : List D.Kl}
theorem Dd.call (h : Dd w B g a len cap G n c L wr) (hB : B ≤ g) (hg : g < w.heap.size) (hc : CurAt w1 g a len cap) (hgr : wr.grownBy w1 (some g)) : Dd w B g a len cap G n c L w1 :=
  ⟨h.ds.step hB hc hgr, own_kept h.own hgr (by have := own_ge h.own; omega)⟩
theorem Dd.later (h : Dd w B g a len cap G n c L wr) (hB : B ≤ g) (hb : Below wr.heap.size wr w1) : Dd w B g a len cap G n c L w1 :=
  ⟨h.ds.later hB hb, ownsRow_below h.own hb⟩
theorem RdB.belowB {w w1 : World} {N B : Nat} {a : Option Addr} {len : Nat} (h : RdB w B a len) (hb : Below N w w1) (hB : B ≤ N) : RdB w1 B a len := by
  intro j hj
  obtain ⟨b, o, z, e, h1, h2, h3⟩ := h j hj
  exact ⟨b, o, z, e, h1, (hb.cell (p := ⟨b, o + j, none⟩) (by show b < N; omega)).trans h2, h3⟩
theorem Dd.app {G' n' c' : Nat} {L' : List D.Kl} (h : Dd w B g a len cap G n c L wr) (hg : g < w.heap.size) (hBw : B ≤ w.heap.size) (ho : D.Own w1 w.heap.size G' n' c' L') (hb : Below w.heap.size wr w1) : Dd w B g a len cap G' n' c' L' w1 :=
  ⟨⟨h.ds.cur.other (hb.block g hg), h.ds.rd.belowB hb hBw, ⟨hb.os.trans h.ds.gr.os, hb.tape.trans h.ds.gr.tape, hb.output.trans h.ds.gr.output, Nat.le_trans h.ds.gr.size hb.size, fun j hj hne => (hb.block j hj).trans (h.ds.gr.block j hj hne)⟩⟩, ho⟩
theorem Dd.put {x : D.Kl} (h : Dd w B g a len cap G n c (x :: L) wr) (hB : B ≤ g) (hg : g < w.heap.size) (hBw : B ≤ w.heap.size) (v : Int) : Dd w B g a len cap G n c ((v, x.2) :: L) (wr.setCell ⟨G, 0, none⟩ (.int .i64 v)) := by
  have hG := own_ge h.own
  refine ⟨h.ds.set hB hG (by omega) (by omega), ?_⟩
  have h1 := (h.own.stored 0 (iv v)).1
  have e : (D.flK (x :: L)).set 0 (iv v) = D.flK ((v, x.2) :: L) := by simp [D.flK]
  rw [e] at h1
  exact h1
end
theorem lit3c {w w1 : World} {g k : Nat} {T : TypeId} {o : Array Value} {v : Int} (hg : (w.alloc (.cells o T)).grownBy w1 (some g)) (hne : g < w.heap.size) (h : (w.alloc (.cells o T)).cell? ⟨w.heap.size, k, none⟩ = some (.int .i64 v)) : w1.cell? ⟨w.heap.size, k, none⟩ = some (.int .i64 v) :=
  grown_cell hg (by omega) h
/-- what is drawn -/
def DdR (w : World) (B g : Nat) (a : Option Addr) (len cap : Nat) (e : Ending) (w' : World) : Prop := ∃ (G n c : Nat) (L : List D.Kl), e = .returned (.slice (some ⟨G, 0, none⟩) n c) ∧ n ≤ 201 ∧ Dd w B g a len cap G n c L w'
set_option maxRecDepth 100000 in
set_option maxHeartbeats 6400000 in
theorem ddp_any (B g : Nat) (a : Option Addr) (len cap : Nat) (w : World) (hB : B ≤ g) (hBw : B ≤ w.heap.size) (hl : len ≤ 9223372036854775807) (hc : CurAt w g a len cap) (hr : RdB w B a len) :
    Calls Try.prog 19 #[.pointer (some ⟨g, 0, none⟩)] w (DdR w B g a len cap) := by
  have hg0 := hc.lt
  have D0 : Hid (Dd w B g a len cap w.heap.size 0 0 [] (w.alloc (.cells #[] 32))) := hide ⟨(⟨hc, hr, grown_refl _ _⟩ : DS w B g a len cap w).later hB ((Below.refl _ _).alloc (Nat.le_refl _) _), D.own_lit0 w (Nat.le_refl _)⟩
  have hsz0 : w.heap.size < (w.alloc (.cells #[] 32)).heap.size := by simp
  clear hc hr
  go_enter Try.func19, Try.ntmps19
  go_wp2_with fail
  refine (below_any B g a len cap 8 _ hB hl (unhide D0).ds.cur (unhide D0).ds.rd (by omega)).mono ?_
  rintro e w1 ⟨x, rfl, x0, x1, k1, g1⟩
  have D1 := hide ((unhide D0).call hB hg0 k1 g1)
  have hsz1 : w.heap.size < w1.heap.size := own_lt (unhide D1).own
  obtain ⟨K, rfl⟩ : ∃ K : Nat, x = K := ⟨x.toNat, by omega⟩
  have hK : K ≤ 8 := by omega
  clear D0 k1 g1 hsz0 x0 x1
  go_wp2
  go_loopw [3, 4] (fun s t wr => ∃ (k i G c : Nat) (L : List D.Kl), t = .int .i64 k ∧ s = .slice (some ⟨G, 0, none⟩) i c ∧ i + k ≤ 8 ∧ G < wr.heap.size ∧ Hid (Dd w B g a len cap G i c L wr)) (fun _ t _ => (intOf t).toNat)
  case atStart => exact ⟨K, 0, w.heap.size, 0, [], rfl, rfl, by omega, hsz1, D1⟩
  case round =>
    clear D1 hsz1 hK
    obtain ⟨k, i, G, c, L, rfl, rfl, hik, hGl, D⟩ := hrel
    by_cases hlt : 0 < k
    · obtain ⟨k', rfl⟩ : ∃ k' : Nat, k = k' + 1 := ⟨k - 1, by omega⟩
      go_wp2_with fail
      refine (below_any B g a len cap 6 _ hB hl (unhide D).ds.cur (unhide D).ds.rd (by omega)).mono ?_
      rintro e w2 ⟨t, rfl, t0, t1, k2, g2⟩
      have D2 := hide ((unhide D).call hB hg0 k2 g2)
      have hw2 : w.heap.size < w2.heap.size := by have h1 := own_lt (unhide D2).own; have h2 := own_ge (unhide D2).own; omega
      clear D k2 g2 hGl
      go_wp2_with fail
      refine (dpx_any B g a len cap _ hB (by omega) hl (unhide D2).ds.cur (unhide D2).ds.rd).mono ?_
      rintro e w3 ⟨p0, p1, p2, p3, rfl, d3⟩
      have D3 := hide ((unhide D2).call hB hg0 d3.cur d3.gr)
      have hG3 : G < w3.heap.size := own_lt (unhide D3).own
      have hw3 : w.heap.size < w3.heap.size := by have h2 := own_ge (unhide D3).own; omega
      clear D2 d3 hw2
      go_wp2_with (at_builtin; refine D.wpList_kN Try.underlying24 (B := w.heap.size) (C := w3.heap.size) (wr := w3) (g := G) (n := i) (cap := c) (L := L) rfl _ _ rfl rfl (unhide D3).own (hX := by repeat first | exact Below.refl _ _ | refine Below.setCell ?_ (by simp <;> omega) _ | refine Below.alloc ?_ (by simp <;> omega) _) hG3 w3.heap.size (by simp) rfl (by omega) (by omega) (by omega) ?_)
      intro G' c' w5 ho hbB hge hlt2
      have D4 := hide ((unhide D3).app hg0 hBw ho hbB)
      clear ho hbB D3 hG3 hw3
      go_wp2
      go_roundw
      case rel => exact ⟨k', i + 1, G', c', _, by go_num, rfl, by omega, hlt2, D4⟩
      case measure => simp [intOf]
    · have hk0 : k = 0 := by omega
      subst hk0
      go_wp2_with fail
      refine (once_any B g a len cap 24 _ hB hl (unhide D).ds.cur (unhide D).ds.rd (by omega)).mono ?_
      rintro e w2 ⟨o, rfl, k2, g2⟩
      have D2 := hide ((unhide D).call hB hg0 k2 g2)
      clear D k2 g2 hGl hlt
      have hi8 : i ≤ 8 := by omega
      clear hik
      cases o
      · have DD := D2
        clear D2
        go_wp2_with fail
        refine (once_any B g a len cap 40 _ hB hl (unhide DD).ds.cur (unhide DD).ds.rd (by omega)).mono ?_
        rintro e w7 ⟨o2, rfl, k2, g2⟩
        have D7 := hide ((unhide DD).call hB hg0 k2 g2)
        have hG7 : G < w7.heap.size := own_lt (unhide D7).own
        clear DD k2 g2
        cases o2
        · go_wp2
          go_ret
          exact ⟨G, i, c, _, rfl, by omega, unhide D7⟩
        go_wp2
        go_loopw [3] (fun s wr => ∃ (i G c : Nat) (L : List D.Kl), s = .slice (some ⟨G, 0, none⟩) i c ∧ i ≤ 201 ∧ G < wr.heap.size ∧ Hid (Dd w B g a len cap G i c L wr)) (fun s _ => 202 - slen s)
        case atStart => exact ⟨i, G, c, _, rfl, by omega, hG7, D7⟩
        case round =>
          clear D7 hG7 hi8
          obtain ⟨i, G, c, L, rfl, hi, hGl, D⟩ := hrel
          go_wp2_with fail
          refine (below_any B g a len cap 2 _ hB hl (unhide D).ds.cur (unhide D).ds.rd (by omega)).mono ?_
          rintro e w2 ⟨t, rfl, t0, t1, k2, g2⟩
          have D2 := hide ((unhide D).call hB hg0 k2 g2)
          clear D k2 g2 hGl
          have hG2 : G < w2.heap.size := own_lt (unhide D2).own
          by_cases hlt : (i : Int) < 200 + t
          · have tl : decide ((i : Int) < 200 + t) = true := by simpa using hlt
            go_wp2_with fail
            refine (below_any B g a len cap 9 _ hB hl (unhide D2).ds.cur (unhide D2).ds.rd (by omega)).mono ?_
            rintro e w3 ⟨u, rfl, u0, u1, k2, g2⟩
            have D3 := hide ((unhide D2).call hB hg0 k2 g2)
            have hG3 : G < w3.heap.size := own_lt (unhide D3).own
            have hw3 : w.heap.size < w3.heap.size := by have h2 := own_ge (unhide D3).own; omega
            clear D2 k2 g2 hG2
            go_wp2_with (at_builtin; refine D.wpList_kN Try.underlying24 (B := w.heap.size) (C := w3.heap.size) (wr := w3) (g := G) (n := i) (cap := c) (L := L) rfl _ _ rfl rfl (unhide D3).own (hX := by repeat first | exact Below.refl _ _ | refine Below.setCell ?_ (by simp <;> omega) _ | refine Below.alloc ?_ (by simp <;> omega) _) hG3 w3.heap.size (by simp) rfl (by omega) (by omega) (by omega) ?_)
            intro G' c' w5 ho hbB hge hlt2
            have D4 := hide ((unhide D3).app hg0 hBw ho hbB)
            clear ho hbB D3 hG3 hw3
            go_wp2
            go_roundw
            case rel => exact ⟨i + 1, G', c', _, rfl, by omega, hlt2, D4⟩
            case measure => simp [slen]; omega
          · have tl : decide ((i : Int) < 200 + t) = false := by simpa using hlt
            go_wp2
            go_ret
            exact ⟨G, i, c, _, rfl, by omega, unhide D2⟩
      by_cases hi0 : i = 0
      · subst hi0
        have DD := D2
        clear D2
        go_wp2_with fail
        refine (once_any B g a len cap 40 _ hB hl (unhide DD).ds.cur (unhide DD).ds.rd (by omega)).mono ?_
        rintro e w7 ⟨o2, rfl, k2, g2⟩
        have D7 := hide ((unhide DD).call hB hg0 k2 g2)
        have hG7 : G < w7.heap.size := own_lt (unhide D7).own
        clear DD k2 g2
        cases o2
        · go_wp2
          go_ret
          exact ⟨G, 0, c, _, rfl, by omega, unhide D7⟩
        go_wp2
        go_loopw [3] (fun s wr => ∃ (i G c : Nat) (L : List D.Kl), s = .slice (some ⟨G, 0, none⟩) i c ∧ i ≤ 201 ∧ G < wr.heap.size ∧ Hid (Dd w B g a len cap G i c L wr)) (fun s _ => 202 - slen s)
        case atStart => exact ⟨0, G, c, _, rfl, by omega, hG7, D7⟩
        case round =>
          clear D7 hG7 hi8
          obtain ⟨i, G, c, L, rfl, hi, hGl, D⟩ := hrel
          go_wp2_with fail
          refine (below_any B g a len cap 2 _ hB hl (unhide D).ds.cur (unhide D).ds.rd (by omega)).mono ?_
          rintro e w2 ⟨t, rfl, t0, t1, k2, g2⟩
          have D2 := hide ((unhide D).call hB hg0 k2 g2)
          clear D k2 g2 hGl
          have hG2 : G < w2.heap.size := own_lt (unhide D2).own
          by_cases hlt : (i : Int) < 200 + t
          · have tl : decide ((i : Int) < 200 + t) = true := by simpa using hlt
            go_wp2_with fail
            refine (below_any B g a len cap 9 _ hB hl (unhide D2).ds.cur (unhide D2).ds.rd (by omega)).mono ?_
            rintro e w3 ⟨u, rfl, u0, u1, k2, g2⟩
            have D3 := hide ((unhide D2).call hB hg0 k2 g2)
            have hG3 : G < w3.heap.size := own_lt (unhide D3).own
            have hw3 : w.heap.size < w3.heap.size := by have h2 := own_ge (unhide D3).own; omega
            clear D2 k2 g2 hG2
            go_wp2_with (at_builtin; refine D.wpList_kN Try.underlying24 (B := w.heap.size) (C := w3.heap.size) (wr := w3) (g := G) (n := i) (cap := c) (L := L) rfl _ _ rfl rfl (unhide D3).own (hX := by repeat first | exact Below.refl _ _ | refine Below.setCell ?_ (by simp <;> omega) _ | refine Below.alloc ?_ (by simp <;> omega) _) hG3 w3.heap.size (by simp) rfl (by omega) (by omega) (by omega) ?_)
            intro G' c' w5 ho hbB hge hlt2
            have D4 := hide ((unhide D3).app hg0 hBw ho hbB)
            clear ho hbB D3 hG3 hw3
            go_wp2
            go_roundw
            case rel => exact ⟨i + 1, G', c', _, rfl, by omega, hlt2, D4⟩
            case measure => simp [slen]; omega
          · have tl : decide ((i : Int) < 200 + t) = false := by simpa using hlt
            go_wp2
            go_ret
            exact ⟨G, i, c, _, rfl, by omega, unhide D2⟩
      obtain ⟨z, L', rfl⟩ : ∃ z L', L = z :: L' := by
        cases L with
        | nil => have := D.own_len (unhide D2).own; simp at this; omega
        | cons z L' => exact ⟨z, L', rfl⟩
      have hgi : (0 : Int) < i := by omega
      have hgw : g < w2.heap.size := (unhide D2).ds.cur.lt
      have DA := hide ((unhide D2).later hB ((Below.refl _ _).alloc (Nat.le_refl _) (.cells #[.int .i64 (-1), .int .i64 10000000, .int .i64 10000001] 2)))
      clear D2
      go_wp2_with fail
      refine (below_any B g a len cap 3 _ hB hl (unhide DA).ds.cur (unhide DA).ds.rd (by omega)).mono ?_
      rintro e w6 ⟨y, rfl, y0, y1, k2, g2⟩
      obtain ⟨y, rfl⟩ : ∃ y' : Nat, y = y' := ⟨y.toNat, by omega⟩
      obtain ⟨v, hv⟩ := lit3 (w := w2) (T := 2) (k := y) (a0 := -1) (a1 := 10000000) (a2 := 10000001) (by omega)
      have hv6 := lit3c g2 hgw hv
      have D6 := hide ((unhide DA).call hB hg0 k2 g2)
      clear DA k2 g2 hv
      obtain ⟨c0, c1, c2, c3, c4⟩ := D.own_cells (k := 0) (l := z :: L') rfl (unhide D6).own
      rw [Nat.zero_mul] at c0
      have f0 := (unhide D6).own.frozenAt 0
      have DD := hide ((unhide D6).put hB hg0 hBw v)
      clear D6 c1 c2 c3 c4
      go_wp2_with fail
      refine (once_any B g a len cap 40 _ hB hl (unhide DD).ds.cur (unhide DD).ds.rd (by omega)).mono ?_
      rintro e w7 ⟨o2, rfl, k2, g2⟩
      have D7 := hide ((unhide DD).call hB hg0 k2 g2)
      have hG7 : G < w7.heap.size := own_lt (unhide D7).own
      clear DD k2 g2 c0 f0 hv6
      cases o2
      · go_wp2
        go_ret
        exact ⟨G, i, c, _, rfl, by omega, unhide D7⟩
      go_wp2
      go_loopw [3] (fun s wr => ∃ (i G c : Nat) (L : List D.Kl), s = .slice (some ⟨G, 0, none⟩) i c ∧ i ≤ 201 ∧ G < wr.heap.size ∧ Hid (Dd w B g a len cap G i c L wr)) (fun s _ => 202 - slen s)
      case atStart => exact ⟨i, G, c, _, rfl, by omega, hG7, D7⟩
      case round =>
        clear D7 hG7 hi8
        obtain ⟨i, G, c, L, rfl, hi, hGl, D⟩ := hrel
        go_wp2_with fail
        refine (below_any B g a len cap 2 _ hB hl (unhide D).ds.cur (unhide D).ds.rd (by omega)).mono ?_
        rintro e w2 ⟨t, rfl, t0, t1, k2, g2⟩
        have D2 := hide ((unhide D).call hB hg0 k2 g2)
        clear D k2 g2 hGl
        have hG2 : G < w2.heap.size := own_lt (unhide D2).own
        by_cases hlt : (i : Int) < 200 + t
        · have tl : decide ((i : Int) < 200 + t) = true := by simpa using hlt
          go_wp2_with fail
          refine (below_any B g a len cap 9 _ hB hl (unhide D2).ds.cur (unhide D2).ds.rd (by omega)).mono ?_
          rintro e w3 ⟨u, rfl, u0, u1, k2, g2⟩
          have D3 := hide ((unhide D2).call hB hg0 k2 g2)
          have hG3 : G < w3.heap.size := own_lt (unhide D3).own
          have hw3 : w.heap.size < w3.heap.size := by have h2 := own_ge (unhide D3).own; omega
          clear D2 k2 g2 hG2
          go_wp2_with (at_builtin; refine D.wpList_kN Try.underlying24 (B := w.heap.size) (C := w3.heap.size) (wr := w3) (g := G) (n := i) (cap := c) (L := L) rfl _ _ rfl rfl (unhide D3).own (hX := by repeat first | exact Below.refl _ _ | refine Below.setCell ?_ (by simp <;> omega) _ | refine Below.alloc ?_ (by simp <;> omega) _) hG3 w3.heap.size (by simp) rfl (by omega) (by omega) (by omega) ?_)
          intro G' c' w5 ho hbB hge hlt2
          have D4 := hide ((unhide D3).app hg0 hBw ho hbB)
          clear ho hbB D3 hG3 hw3
          go_wp2
          go_roundw
          case rel => exact ⟨i + 1, G', c', _, rfl, by omega, hlt2, D4⟩
          case measure => simp [slen]; omega
        · have tl : decide ((i : Int) < 200 + t) = false := by simpa using hlt
          go_wp2
          go_ret
          exact ⟨G, i, c, _, rfl, by omega, unhide D2⟩

/-- two lists that are drawn -/
def DmR (w : World) (e : Ending) (w' : World) : Prop := ∃ (G n c : Nat) (L : List D.Kl) (G2 n2 c2 : Nat) (L2 : List D.Kl), e = .returned (.tuple #[.slice (some ⟨G, 0, none⟩) n c, .slice (some ⟨G2, 0, none⟩) n2 c2]) ∧ n ≤ 201 ∧ n2 ≤ 201 ∧ D.Own w' w.heap.size G n c L ∧ D.Own w' w.heap.size G2 n2 c2 L2 ∧ Below w.heap.size w w'
set_option maxHeartbeats 1600000 in
theorem dmg_any {w : World} (a : Option Addr) (len cap : Nat) (hl : len ≤ 4096) (hr : RdB w w.heap.size a len) : Calls Try.prog 7 #[.slice a len cap] w (DmR w) := by
  have hr' := hide hr
  have hl9 : len ≤ 9223372036854775807 := by omega
  clear hr
  go_enter Try.func7, Try.ntmps7
  go_wp2_with fail
  refine (new_any a len cap _ hl9 (by omega) (unhide hr')).mono ?_
  rintro e w1 ⟨g, rfl, hWg, hc1, hb1⟩
  have hW1 := hb1.size
  have hg1 := hc1.lt
  have B1 := hide hb1
  have C1 := hide hc1
  have R1 := hide ((unhide hr').belowB hb1 (Nat.le_refl _))
  clear hc1 hb1
  go_wp2_with fail
  refine (ddp_any w.heap.size g a len cap _ hWg hW1 hl9 (unhide C1) (unhide R1)).mono ?_
  rintro e w2 ⟨G, n, c, L, rfl, hn, d2⟩
  have B2 := hide (below_grown (unhide B1) d2.ds.gr hWg)
  have D2 := hide d2
  have hw2 := d2.ds.gr.size
  clear d2 B1 C1 R1
  go_wp2_with fail
  refine (ddp_any w.heap.size g a len cap _ hWg (by omega) hl9 (unhide D2).ds.cur (unhide D2).ds.rd).mono ?_
  rintro e w3 ⟨G2, n2, c2, L2, rfl, hn2, d3⟩
  have B3 := hide (below_grown (unhide B2) d3.ds.gr hWg)
  have O1 : Hid (D.Own w3 w.heap.size G n c L) := hide (own_mono (own_kept (unhide D2).own d3.ds.gr (by have := own_ge (unhide D2).own; omega)) hW1)
  have O2 : Hid (D.Own w3 w.heap.size G2 n2 c2 L2) := hide (own_mono d3.own (by omega))
  clear d3 B2 D2
  go_wp2
  go_ret2
  exact ⟨G, n, c, L, G2, n2, c2, L2, rfl, hn, hn2, unhide O1, unhide O2, unhide B3⟩

end Go.Proofs.Ytmpbcmpjfcddoaa
