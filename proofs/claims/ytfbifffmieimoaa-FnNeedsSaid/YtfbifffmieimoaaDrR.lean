/-
  The model's draw of reels: its contract: a list of its own, whatever is in it.
-/
import Derived.Test.YtfbifffmieimoaaSmC
namespace Go.Proofs.Ytfbifffmieimoaa.Rl
open Go.RowKit
open Go.Proofs.Ytfbifffmieimoaa
set_option linter.unusedVariables false
set_option linter.unusedSimpArgs false

/-- a drawn list: a list of its own, at most so long; the cursor has moved -/
structure DR (w : World) (B g : Nat) (a : Option Addr) (len cap : Nat) (wr : World) (r c n : Nat) : Prop where
  own : ∃ L : List Kl, L.length = n ∧ Own wr w.heap.size r n c L
  ds : DS w B g a len cap wr
theorem own_new {w wr : World} {r c n g : Nat} {L : List Kl} (h : Own wr w.heap.size r n c L) (hg : g < w.heap.size) : r ≠ g := by have := own_ge h; omega
theorem ds_grown {w wr w1 : World} {B g r : Nat} {a : Option Addr} {len cap : Nat} (h : DS w B g a len cap wr) (hg : wr.grownBy w1 (some r)) (hr : w.heap.size ≤ r) (hgl : g < w.heap.size) (hB : B ≤ g) : DS w B g a len cap w1 := by
  have hgr : w.grownBy w1 (some g) := ⟨hg.os.trans h.gr.os, hg.tape.trans h.gr.tape, hg.output.trans h.gr.output, Nat.le_trans h.gr.size hg.size, fun k hk hn => (hg.block k (Nat.lt_of_lt_of_le hk h.gr.size) (by intro e; injection e with e; omega)).trans (h.gr.block k hk hn)⟩
  have hgw : g < wr.heap.size := Nat.lt_of_lt_of_le hgl h.gr.size
  refine ⟨h.cur.other (hg.block g hgw (by intro e; injection e with e; omega)), ?_, hgr⟩
  exact h.rd.grown hg (by omega)
theorem own_s0 {w : World} {B r n c : Nat} {L : List Kl} {v : Int} (h : Own w B r n c L) (hn : 0 < n) : ∃ L' : List Kl, L'.length = n ∧ Own (w.setCell ⟨r, 0, none⟩ (.int .i64 v)) B r n c L' := by
  have hl := own_len h
  obtain ⟨x, l, rfl⟩ : ∃ x l, L = x :: l := by cases L with | nil => simp at hl; omega | cons x l => exact ⟨x, l, rfl⟩
  exact ⟨(v, x.2.1, x.2.2) :: l, by simpa using hl, (h.stored 0 (iv v)).1⟩
theorem own_s1 {w : World} {B r n c : Nat} {L : List Kl} {v : Int} (h : Own w B r n c L) (hn : 0 < n) : ∃ L' : List Kl, L'.length = n ∧ Own (w.setCell ⟨r, 1, none⟩ (.int .i64 v)) B r n c L' := by
  have hl := own_len h
  obtain ⟨x, l, rfl⟩ : ∃ x l, L = x :: l := by cases L with | nil => simp at hl; omega | cons x l => exact ⟨x, l, rfl⟩
  exact ⟨(x.1, v, x.2.2) :: l, by simpa using hl, (h.stored 1 (iv v)).1⟩
theorem own_s2 {w : World} {B r n c : Nat} {L : List Kl} {v : Int} (h : Own w B r n c L) (hn : 0 < n) : ∃ L' : List Kl, L'.length = n ∧ Own (w.setCell ⟨r, 2, none⟩ (.int .i64 v)) B r n c L' := by
  have hl := own_len h
  obtain ⟨x, l, rfl⟩ : ∃ x l, L = x :: l := by cases L with | nil => simp at hl; omega | cons x l => exact ⟨x, l, rfl⟩
  exact ⟨(x.1, x.2.1, v) :: l, by simpa using hl, (h.stored 2 (iv v)).1⟩
theorem set_grown (w : World) (r i : Nat) (v : Value) : w.grownBy (w.setCell ⟨r, i, none⟩ v) (some r) := grown_set (grown_refl w _)
theorem ds_alloc {w wr : World} {B g : Nat} {a : Option Addr} {len cap : Nat} (h : DS w B g a len cap wr) (hB : B ≤ g) (o : Obj) : DS w B g a len cap (wr.alloc o) := h.later hB ((Below.refl _ _).alloc (Nat.le_refl _) _)

def lenV : Value → Nat
  | .slice _ n _ => n
  | _ => 0
theorem lit2 {w : World} {T : TypeId} {k : Nat} {a0 a1 : Int} (hk : k < 2) : ∃ v : Int, (w.alloc (.cells #[.int .i64 a0, .int .i64 a1] T)).cell? ⟨w.heap.size, k, none⟩ = some (.int .i64 v) := by
  have h := heap_alloc_new w (.cells #[.int .i64 a0, .int .i64 a1] T)
  have : k = 0 ∨ k = 1 := by omega
  rcases this with rfl | rfl
  · exact ⟨a0, by simp only [World.cell?, h]; rfl⟩
  · exact ⟨a1, by simp only [World.cell?, h]; rfl⟩
theorem own_int {w : World} {B r n c : Nat} {L : List Kl} (h : Own w B r n c L) (hn : 0 < n) : ∃ z, w.cell? ⟨r, 2, none⟩ = some (.int .i64 z) := by
  have hl := own_len h
  obtain ⟨_, _, c2⟩ := own_cells (List.getElem?_eq_getElem (by omega : 0 < L.length)) h
  exact ⟨_, by simpa using c2⟩
theorem cell_ne {w : World} {r i j : Nat} {u v : Value} (h : j ≠ i) (hc : w.cell? ⟨r, i, none⟩ = some v) : (w.setCell ⟨r, j, none⟩ u).cell? ⟨r, i, none⟩ = some v := by
  rw [World.cell?_setCell_other _ _ _ _ (by intro e; injection e with _ e2 _; exact h e2)]; exact hc

set_option maxRecDepth 100000 in
set_option maxHeartbeats 6400000 in
theorem drr_any (B g : Nat) (a : Option Addr) (len cap : Nat) (w : World) (hB : B ≤ g) (hl : len ≤ 9223372036854775807) (hc : CurAt w g a len cap) (hr : RdB w B a len) :
    Calls Try.prog 41 #[.pointer (some ⟨g, 0, none⟩)] w fun e w' => ∃ r c n, e = .returned (.slice (some ⟨r, 0, none⟩) n c) ∧ n ≤ 400 ∧ DR w B g a len cap w' r c n := by
  have hgl : g < w.heap.size := hc.lt
  have hD : Hid (DS w B g a len cap (w.alloc (.cells #[] 34))) := hide (ds_alloc ⟨hc, hr, grown_refl _ _⟩ hB _)
  have hO : Hid (Own (w.alloc (.cells #[] 34)) w.heap.size w.heap.size 0 0 []) := hide (own_lit0 w (Nat.le_refl _))
  have hrg : w.heap.size ≠ g := by omega
  clear hc hr
  go_enter Try.func41, Try.ntmps41
  go_wp2_with fail
  refine (below_any B g a len cap 7 _ hB hl (unhide hD).cur (unhide hD).rd (by omega)).mono ?_
  rintro e w1 ⟨x, rfl, x0, x1, hcu, hgr⟩
  have hO := hide (own_kept (unhide hO) hgr (by omega))
  have hD := hide ((unhide hD).step hB hcu hgr)
  clear hcu hgr
  go_wp2
  go_loopw [3, 4] (fun s t wr => ∃ (r c n : Nat) (q : Int), t = .int .i64 q ∧ s = .slice (some ⟨r, 0, none⟩) n c ∧ 0 ≤ q ∧ q ≤ 6 ∧ n + q ≤ 6 ∧ w.heap.size ≤ r ∧ Hid (DR w B g a len cap wr r c n)) (fun _ t _ => (intOf t).toNat)
  case atStart => exact ⟨w.heap.size, 0, 0, x, rfl, rfl, by omega, by omega, by omega, by omega, hide ⟨⟨[], rfl, unhide hO⟩, unhide hD⟩⟩
  case round =>
    clear hO hD
    obtain ⟨r, c, n, q, rfl, rfl, q0, q1, q2, hwr, hDR⟩ := hrel
    obtain ⟨L, hLn, hO0⟩ := (unhide hDR).own
    have hO := hide hO0
    have hD := hide (unhide hDR).ds
    have hrg : r ≠ g := by omega
    clear hO0 hDR
    by_cases hq : 0 < q
    · have hqd : decide (0 < q) = true := by simpa using hq
      go_wp2_with fail
      refine (below_any B g a len cap 50 _ hB hl (unhide hD).cur (unhide hD).rd (by omega)).mono ?_
      rintro e w2 ⟨f, rfl, f0, f1, hcu, hgr⟩
      have hO := hide (own_kept (unhide hO) hgr (by omega))
      have hD := hide ((unhide hD).step hB hcu hgr)
      clear hcu hgr
      go_wp2_with fail
      refine (below_any B g a len cap 3 _ hB hl (unhide hD).cur (unhide hD).rd (by omega)).mono ?_
      rintro e w3 ⟨s, rfl, s0, s1, hcu, hgr⟩
      have hO := hide (own_kept (unhide hO) hgr (by omega))
      have hD := hide ((unhide hD).step hB hcu hgr)
      clear hcu hgr
      go_wp2_with fail
      refine (below_any B g a len cap 20 _ hB hl (unhide hD).cur (unhide hD).rd (by omega)).mono ?_
      rintro e w4 ⟨d, rfl, d0, d1, hcu, hgr⟩
      have hO := hide (own_kept (unhide hO) hgr (by omega))
      have hD := hide ((unhide hD).step hB hcu hgr)
      clear hcu hgr
      go_wp2_with (at_builtin; refine wpList_kg Try.underlying27 rfl _ _ rfl w.heap.size r n c L rfl (unhide hO) _ rfl rfl (by omega) ?_)
      intro r' c' w' hown' hgr' hg'
      have hN : Hid (DR w B g a len cap w' r' c' (n + 1)) := hide ⟨⟨_, own_len hown', hown'⟩, ds_grown (unhide hD) hgr' hwr hgl hB⟩
      clear hown' hgr' hO hD
      go_wp2
      go_roundw
      case rel => exact ⟨r', c', n + 1, q - 1, by go_num, rfl, by omega, by omega, by omega, hg', hN⟩
      case measure => simp [intOf]; omega
    · have hqd : decide (0 < q) = false := by simpa using hq
      have hq0 : q = 0 := by omega
      have hq' := hide hq0
      clear hq hq0
      go_wp2_with fail
      refine (once_any B g a len cap 24 _ hB hl (unhide hD).cur (unhide hD).rd (by omega)).mono ?_
      rintro e w5 ⟨v, rfl, hcu, hgr⟩
      have hO := hide (own_kept (unhide hO) hgr (by omega))
      have hD := hide ((unhide hD).step hB hcu hgr)
      clear hcu hgr
      cases v with
      | false =>
        have hn0 : True := trivial
        go_wp2_with fail
        refine (once_any B g a len cap 60 _ hB hl (unhide hD).cur (unhide hD).rd (by omega)).mono ?_
        rintro e w9 ⟨v, rfl, hcu, hgr⟩
        have hO := hide (own_kept (unhide hO) hgr (by omega))
        have hD := hide ((unhide hD).step hB hcu hgr)
        clear hcu hgr
        cases v with
        | false =>
          go_wp2
          go_ret
          exact ⟨r, c, n, rfl, by omega, ⟨⟨_, hLn, unhide hO⟩, unhide hD⟩⟩
        | true =>
          have hst : Hid (DR w B g a len cap w9 r c n) := hide ⟨⟨_, hLn, unhide hO⟩, unhide hD⟩
          clear hO hD
          go_wp2
          go_loopw [3] (fun s wr => ∃ (r c n : Nat), s = .slice (some ⟨r, 0, none⟩) n c ∧ n ≤ 302 ∧ w.heap.size ≤ r ∧ Hid (DR w B g a len cap wr r c n)) (fun s _ => 400 - lenV s)
          case atStart => exact ⟨r, c, n, rfl, by omega, hwr, hst⟩
          case round =>
            clear hst
            obtain ⟨r, c, n, rfl, hn, hwr, hDR⟩ := hrel
            obtain ⟨L, hLn, hO0⟩ := (unhide hDR).own
            have hO := hide hO0
            have hD := hide (unhide hDR).ds
            have hrg : r ≠ g := by omega
            clear hO0 hDR
            go_wp2_with fail
            refine (below_any B g a len cap 2 _ hB hl (unhide hD).cur (unhide hD).rd (by omega)).mono ?_
            rintro e w10 ⟨y, rfl, y0, y1, hcu, hgr⟩
            have hO := hide (own_kept (unhide hO) hgr (by omega))
            have hD := hide ((unhide hD).step hB hcu hgr)
            clear hcu hgr
            by_cases hlt : (n : Int) < 300 + y
            · have hltd : decide ((n : Int) < 300 + y) = true := by simpa using hlt
              go_wp2_with (at_builtin; refine wpList_kg Try.underlying27 rfl _ _ rfl w.heap.size r n c L rfl (unhide hO) _ rfl rfl (by omega) ?_)
              intro r' c' w' hown' hgr' hg'
              have hN : Hid (DR w B g a len cap w' r' c' (n + 1)) := hide ⟨⟨_, own_len hown', hown'⟩, ds_grown (unhide hD) hgr' hwr hgl hB⟩
              clear hown' hgr' hO hD
              go_wp2
              go_roundw
              case rel => exact ⟨r', c', n + 1, rfl, by omega, hg', hN⟩
              case measure => simp [lenV]; omega
            · have hltd : decide ((n : Int) < 300 + y) = false := by simpa using hlt
              clear hlt
              go_wp2
              go_ret
              exact ⟨r, c, n, rfl, by omega, ⟨⟨L, hLn, unhide hO⟩, unhide hD⟩⟩
      | true =>
        by_cases hn0 : 0 < n
        · have hnd : decide ((0 : Int) < (n : Int)) = true := by simp; omega
          go_wp2_with fail
          refine (below_any B g a len cap 3 _ hB hl (unhide hD).cur (unhide hD).rd (by omega)).mono ?_
          rintro e w6 ⟨p, rfl, p0, p1, hcu, hgr⟩
          have hO := hide (own_kept (unhide hO) hgr (by omega))
          have hD := hide ((unhide hD).step hB hcu hgr)
          clear hcu hgr
          have hp : p = 0 ∨ p = 1 ∨ p = 2 := by omega
          rcases hp with rfl | rfl | rfl
          · have hAl : Below w6.heap.size w6 (w6.alloc (.cells #[.int .i64 (0), .int .i64 (500), .int .i64 (501)] 2)) := (Below.refl _ _).alloc (Nat.le_refl _) _
            have hO := hide (ownsRow_below (unhide hO) hAl)
            have hlg : w6.heap.size ≠ g := by have := (unhide hD).cur.lt; omega
            have hD := hide (ds_alloc (unhide hD) hB (.cells #[.int .i64 (0), .int .i64 (500), .int .i64 (501)] 2))
            have hl5 := fun k hk => lit3 (w := w6) (T := 2) (k := k) (a0 := 0) (a1 := 500) (a2 := 501) hk
            clear hAl
            go_wp2_with fail
            refine (below_any B g a len cap 3 _ hB hl (unhide hD).cur (unhide hD).rd (by omega)).mono ?_
            rintro e w7 ⟨d, rfl, d0, d1, hcu, hgr⟩
            obtain ⟨m, rfl⟩ : ∃ m : Nat, d = m := ⟨d.toNat, by omega⟩
            obtain ⟨u, hu⟩ := hl5 m (by omega)
            have hu2 := grown_cell hgr hlg hu
            have hO := hide (own_kept (unhide hO) hgr (by omega))
            have hD := hide ((unhide hD).step hB hcu hgr)
            clear hcu hgr hu hl5
            obtain ⟨z0, c0, f0, _, _⟩ := own_at (i := 0) (unhide hO) (by omega)
            obtain ⟨L2, hL2, hO2⟩ := own_s0 (v := u) (unhide hO) hn0
            have hD2 := ds_grown (unhide hD) (set_grown w7 r 0 (.int .i64 u)) hwr hgl hB
            have hO := hide hO2
            have hD := hide hD2
            have hLn := hL2
            clear hO2 hD2 hL2
            go_wp2_with fail
            refine (once_any B g a len cap 60 _ hB hl (unhide hD).cur (unhide hD).rd (by omega)).mono ?_
            rintro e w9 ⟨v, rfl, hcu, hgr⟩
            have hO := hide (own_kept (unhide hO) hgr (by omega))
            have hD := hide ((unhide hD).step hB hcu hgr)
            clear hcu hgr
            cases v with
            | false =>
              go_wp2
              go_ret
              exact ⟨r, c, n, rfl, by omega, ⟨⟨_, hLn, unhide hO⟩, unhide hD⟩⟩
            | true =>
              have hst : Hid (DR w B g a len cap w9 r c n) := hide ⟨⟨_, hLn, unhide hO⟩, unhide hD⟩
              clear hO hD
              go_wp2
              go_loopw [3] (fun s wr => ∃ (r c n : Nat), s = .slice (some ⟨r, 0, none⟩) n c ∧ n ≤ 302 ∧ w.heap.size ≤ r ∧ Hid (DR w B g a len cap wr r c n)) (fun s _ => 400 - lenV s)
              case atStart => exact ⟨r, c, n, rfl, by omega, hwr, hst⟩
              case round =>
                clear hst
                obtain ⟨r, c, n, rfl, hn, hwr, hDR⟩ := hrel
                obtain ⟨L, hLn, hO0⟩ := (unhide hDR).own
                have hO := hide hO0
                have hD := hide (unhide hDR).ds
                have hrg : r ≠ g := by omega
                clear hO0 hDR
                go_wp2_with fail
                refine (below_any B g a len cap 2 _ hB hl (unhide hD).cur (unhide hD).rd (by omega)).mono ?_
                rintro e w10 ⟨y, rfl, y0, y1, hcu, hgr⟩
                have hO := hide (own_kept (unhide hO) hgr (by omega))
                have hD := hide ((unhide hD).step hB hcu hgr)
                clear hcu hgr
                by_cases hlt : (n : Int) < 300 + y
                · have hltd : decide ((n : Int) < 300 + y) = true := by simpa using hlt
                  go_wp2_with (at_builtin; refine wpList_kg Try.underlying27 rfl _ _ rfl w.heap.size r n c L rfl (unhide hO) _ rfl rfl (by omega) ?_)
                  intro r' c' w' hown' hgr' hg'
                  have hN : Hid (DR w B g a len cap w' r' c' (n + 1)) := hide ⟨⟨_, own_len hown', hown'⟩, ds_grown (unhide hD) hgr' hwr hgl hB⟩
                  clear hown' hgr' hO hD
                  go_wp2
                  go_roundw
                  case rel => exact ⟨r', c', n + 1, rfl, by omega, hg', hN⟩
                  case measure => simp [lenV]; omega
                · have hltd : decide ((n : Int) < 300 + y) = false := by simpa using hlt
                  clear hlt
                  go_wp2
                  go_ret
                  exact ⟨r, c, n, rfl, by omega, ⟨⟨L, hLn, unhide hO⟩, unhide hD⟩⟩
          · obtain ⟨z0, c0, f0, _, _⟩ := own_at (i := 1) (unhide hO) (by omega)
            obtain ⟨z2, c2⟩ : ∃ z2, w6.cell? ⟨r, 2, none⟩ = some (.int .i64 z2) := own_int (unhide hO) hn0
            go_wp2_with fail
            refine wp_region_noPanic ?_
            refine wp_region_held_drew (S := fun w' => w'.cell? ⟨r, 2, none⟩ = some (.int .i64 z2)) (by kernel_rfl) ?_ (fun hH0 => ?_)
            · exact c2
            have hO : Hid (Own w6.drew w.heap.size r n c L) := hide (unhide hO)
            have hD : Hid (DS w B g a len cap w6.drew) := hide ((unhide hD).later hB (Below.refl _ _).drew)
            refine wpAnyH_take (i := 0) (oi := { dst := some 52, op := Go.Op.move (Go.Operand.tmp 6), type := 83, pos := _, after := #[], guard := none }) (v := ?_) rfl (by kernel_rfl) (by kernel_rfl) (by kernel_rfl) (fun _ _ _ h => h) (Or.inl ⟨by rfl, ?_⟩) hH0 ?_
            rotate_left
            · (intro w hSw; (try dsimp only at hSw); go_simp <;> with_reducible rfl)
            (try simp only [Act.put, List.setIfInBounds_toArray, List.set_cons_zero, List.set_cons_succ])
            refine wpAnyH_take (i := 1) (oi := { dst := some 53, op := Go.Op.move (Go.Operand.tmp 6), type := 83, pos := _, after := #[], guard := none }) (v := ?_) rfl (by kernel_rfl) (by kernel_rfl) (by kernel_rfl) (fun _ _ _ h => h) (Or.inl ⟨by rfl, ?_⟩) hH0 ?_
            rotate_left
            · (intro w hSw; (try dsimp only at hSw); go_simp <;> with_reducible rfl)
            (try simp only [Act.put, List.setIfInBounds_toArray, List.set_cons_zero, List.set_cons_succ])
            refine wpAnyH_take (i := 2) (oi := { dst := some 54, op := Go.Op.nilCheck (Go.Operand.tmp 53), type := 0, pos := _, after := #[{ on := 1, ground := Go.Ground.data }], guard := none }) (v := ?_) rfl (by kernel_rfl) (by kernel_rfl) (by kernel_rfl) (fun _ _ _ h => h) (Or.inl ⟨by rfl, ?_⟩) hH0 ?_
            rotate_left
            · (intro w hSw; (try dsimp only at hSw); go_simp <;> with_reducible rfl)
            (try simp only [Act.put, List.setIfInBounds_toArray, List.set_cons_zero, List.set_cons_succ])
            refine wpAnyH_take (i := 3) (oi := { dst := some 55, op := Go.Op.fieldAddr 34 (Go.Operand.tmp 54) 2, type := 0, pos := _, after := #[{ on := 2, ground := Go.Ground.data }], guard := none }) (v := ?_) rfl (by kernel_rfl) (by kernel_rfl) (by kernel_rfl) (fun _ _ _ h => h) (Or.inl ⟨by rfl, ?_⟩) hH0 ?_
            rotate_left
            · (intro w hSw; (try dsimp only at hSw); go_simp <;> with_reducible rfl)
            (try simp only [Act.put, List.setIfInBounds_toArray, List.set_cons_zero, List.set_cons_succ])
            refine wpAnyH_take (i := 4) (oi := { dst := some 56, op := Go.Op.load 2 (Go.Operand.tmp 55), type := 2, pos := _, after := #[{ on := 3, ground := Go.Ground.data }], guard := none }) (v := ?_) rfl (by kernel_rfl) (by kernel_rfl) (by kernel_rfl) (fun _ _ _ h => h) (Or.inl ⟨by rfl, ?_⟩) hH0 ?_
            rotate_left
            · (intro w hSw; (try dsimp only at hSw); go_simp <;> with_reducible rfl)
            (try simp only [Act.put, List.setIfInBounds_toArray, List.set_cons_zero, List.set_cons_succ])
            refine wpAnyH_take (i := 6) (oi := { dst := some 58, op := Go.Op.move (Go.Operand.tmp 0), type := 46, pos := _, after := #[], guard := none }) (v := ?_) rfl (by kernel_rfl) (by kernel_rfl) (by kernel_rfl) (fun _ _ _ h => h) (Or.inl ⟨by rfl, ?_⟩) hH0 ?_
            rotate_left
            · (intro w hSw; (try dsimp only at hSw); go_simp <;> with_reducible rfl)
            (try simp only [Act.put, List.setIfInBounds_toArray, List.set_cons_zero, List.set_cons_succ])
            refine wpAnyH_ready (rs := [5, 7]) (by kernel_rfl) (by simp) ?_
            refine AllReadyH.cons (o := { dst := some 57, op := Go.Op.buildSlice 52 3 #[(0, Go.Operand.const (Go.Value.int Go.IntKind.i64 (-1))), (1, Go.Operand.tmp 56), (2, Go.Operand.const (Go.Value.int Go.IntKind.i64 0))], type := 52, pos := _, after := #[{ on := 4, ground := Go.Ground.data }], guard := none }) rfl (fun K hK => ?_) ?_
            · go_simp
              have hAl : Below w6.drew.heap.size w6.drew (w6.drew.alloc (.cells #[.int .i64 (-1), .int .i64 z2, .int .i64 0] 2)) := (Below.refl _ _).alloc (Nat.le_refl _) _
              have hO := hide (ownsRow_below (unhide hO) hAl)
              have hlg : w6.heap.size ≠ g := by have := (unhide hD).cur.lt; simp at this; omega
              have hD := hide (ds_alloc (unhide hD) hB (.cells #[.int .i64 (-1), .int .i64 z2, .int .i64 0] 2))
              have hl5 := fun k hk => lit3 (w := w6.drew) (T := 2) (k := k) (a0 := -1) (a1 := z2) (a2 := 0) hk
              refine hK.out _ _ ?_ (fun hH1 => ?_)
              · exact cell_later hAl hH0
              clear hK K
              (try simp only [Act.put, List.setIfInBounds_toArray, List.set_cons_zero, List.set_cons_succ])
              refine wpAnyH_ready (rs := [7]) (by kernel_rfl) (by simp) ?_
              refine AllReadyH.cons (o := { dst := some 59, op := Go.Op.call { callee := Go.Callee.value (Go.Operand.func 28), args := #[Go.Operand.tmp 58, Go.Operand.const (Go.Value.int Go.IntKind.i64 3)], argTypes := #[46, 2] }, type := 2, pos := _, after := #[{ on := 6, ground := Go.Ground.data }], guard := none }) rfl (fun K hK => ?_) AllReadyH.nil
              go_simp
              refine (below_any B g a len cap 3 _ hB hl (unhide hD).cur (unhide hD).rd (by omega)).mono ?_
              rintro e w7 ⟨d, rfl, d0, d1, hcu, hgr⟩
              obtain ⟨m, rfl⟩ : ∃ m : Nat, d = m := ⟨d.toNat, by omega⟩
              obtain ⟨u, hu⟩ := hl5 m (by omega)
              have hu2 := grown_cell hgr hlg hu
              have hHz := grown_cell hgr hrg hH1
              have hO := hide (own_kept (unhide hO) hgr (by omega))
              have hD := hide ((unhide hD).step hB hcu hgr)
              clear hcu hgr hu hl5 hAl
              obtain ⟨z1, c1, f1, _, _⟩ := own_at (i := 1) (unhide hO) (by omega)
              refine hK.out _ _ ?_ (fun hHa => ?_)
              · exact hHz
              clear hK K
              (try simp only [Act.put, List.setIfInBounds_toArray, List.set_cons_zero, List.set_cons_succ])
              refine wpAnyH_take (i := 8) (oi := { dst := some 60, op := Go.Op.indexAddr 52 (Go.Operand.tmp 57) (Go.Operand.tmp 59), type := 0, pos := _, after := #[{ on := 5, ground := Go.Ground.data }, { on := 7, ground := Go.Ground.data }], guard := none }) (v := ?_) rfl (by kernel_rfl) (by kernel_rfl) (by kernel_rfl) (fun _ _ _ h => h) (Or.inl ⟨by rfl, ?_⟩) hHa ?_
              rotate_left
              · (intro w hSw; (try dsimp only at hSw); go_simp <;> with_reducible rfl)
              (try simp only [Act.put, List.setIfInBounds_toArray, List.set_cons_zero, List.set_cons_succ])
              refine wpAnyH_ready (rs := [9]) (by kernel_rfl) (by simp) ?_
              refine AllReadyH.cons (o := { dst := some 61, op := Go.Op.load 2 (Go.Operand.tmp 60), type := 2, pos := _, after := #[{ on := 8, ground := Go.Ground.data }], guard := none }) rfl (fun K hK => ?_) AllReadyH.nil
              go_simp
              refine hK.out _ _ ?_ (fun hHb => ?_)
              · exact hHa
              clear hK K
              (try simp only [Act.put, List.setIfInBounds_toArray, List.set_cons_zero, List.set_cons_succ])
              refine wpAnyH_take (i := 10) (oi := { dst := some 62, op := Go.Op.nilCheck (Go.Operand.tmp 52), type := 0, pos := _, after := #[{ on := 0, ground := Go.Ground.data }, { on := 0, ground := Go.Ground.phase }, { on := 1, ground := Go.Ground.phase }, { on := 2, ground := Go.Ground.phase }, { on := 3, ground := Go.Ground.phase }, { on := 4, ground := Go.Ground.phase }, { on := 5, ground := Go.Ground.phase }, { on := 6, ground := Go.Ground.phase }, { on := 7, ground := Go.Ground.phase }, { on := 8, ground := Go.Ground.phase }, { on := 9, ground := Go.Ground.phase }], guard := none }) (v := ?_) rfl (by kernel_rfl) (by kernel_rfl) (by kernel_rfl) (fun _ _ _ h => h) (Or.inl ⟨by rfl, ?_⟩) hHb ?_
              rotate_left
              · (intro w hSw; (try dsimp only at hSw); go_simp <;> with_reducible rfl)
              (try simp only [Act.put, List.setIfInBounds_toArray, List.set_cons_zero, List.set_cons_succ])
              refine wpAnyH_take (i := 11) (oi := { dst := some 63, op := Go.Op.fieldAddr 34 (Go.Operand.tmp 62) 1, type := 0, pos := _, after := #[{ on := 10, ground := Go.Ground.data }, { on := 0, ground := Go.Ground.phase }, { on := 1, ground := Go.Ground.phase }, { on := 2, ground := Go.Ground.phase }, { on := 3, ground := Go.Ground.phase }, { on := 4, ground := Go.Ground.phase }, { on := 5, ground := Go.Ground.phase }, { on := 6, ground := Go.Ground.phase }, { on := 7, ground := Go.Ground.phase }, { on := 8, ground := Go.Ground.phase }, { on := 9, ground := Go.Ground.phase }], guard := none }) (v := ?_) rfl (by kernel_rfl) (by kernel_rfl) (by kernel_rfl) (fun _ _ _ h => h) (Or.inl ⟨by rfl, ?_⟩) hHb ?_
              rotate_left
              · (intro w hSw; (try dsimp only at hSw); go_simp <;> with_reducible rfl)
              (try simp only [Act.put, List.setIfInBounds_toArray, List.set_cons_zero, List.set_cons_succ])
              refine wpAnyH_ready (rs := [12]) (by kernel_rfl) (by simp) ?_
              refine AllReadyH.cons (o := { dst := none, op := Go.Op.store 2 (Go.Operand.tmp 63) (Go.Operand.tmp 61), type := 0, pos := _, after := #[{ on := 11, ground := Go.Ground.data }, { on := 9, ground := Go.Ground.data }, { on := 7, ground := Go.Ground.chain }, { on := 0, ground := Go.Ground.phase }, { on := 1, ground := Go.Ground.phase }, { on := 2, ground := Go.Ground.phase }, { on := 3, ground := Go.Ground.phase }, { on := 4, ground := Go.Ground.phase }, { on := 5, ground := Go.Ground.phase }, { on := 6, ground := Go.Ground.phase }, { on := 7, ground := Go.Ground.phase }, { on := 8, ground := Go.Ground.phase }, { on := 9, ground := Go.Ground.phase }], guard := none }) rfl (fun K hK => ?_) AllReadyH.nil
              go_simp
              refine hK.out _ _ ?_ (fun hHc => ?_)
              · exact cell_ne (by decide) hHb
              clear hK K
              (try simp only [Act.put, List.setIfInBounds_toArray, List.set_cons_zero, List.set_cons_succ])
              refine wpAnyH_done (by kernel_rfl) ?_ _
              refine NoPanic.normal ?_
              clear hHa hHb hHc hu2 c0 f0 c2
              obtain ⟨L2, hL2, hO2⟩ := own_s1 (v := u) (unhide hO) hn0
              have hD2 := ds_grown (unhide hD) (set_grown w7 r 1 (.int .i64 u)) hwr hgl hB
              have hO := hide hO2
              have hD := hide hD2
              have hLn := hL2
              clear hO2 hD2 hL2 c1 f1
              go_wp2_with fail
              refine (once_any B g a len cap 60 _ hB hl (unhide hD).cur (unhide hD).rd (by omega)).mono ?_
              rintro e w9 ⟨v, rfl, hcu, hgr⟩
              have hO := hide (own_kept (unhide hO) hgr (by omega))
              have hD := hide ((unhide hD).step hB hcu hgr)
              clear hcu hgr
              cases v with
              | false =>
                go_wp2
                go_ret
                exact ⟨r, c, n, rfl, by omega, ⟨⟨_, hLn, unhide hO⟩, unhide hD⟩⟩
              | true =>
                have hst : Hid (DR w B g a len cap w9 r c n) := hide ⟨⟨_, hLn, unhide hO⟩, unhide hD⟩
                clear hO hD
                go_wp2
                go_loopw [3] (fun s wr => ∃ (r c n : Nat), s = .slice (some ⟨r, 0, none⟩) n c ∧ n ≤ 302 ∧ w.heap.size ≤ r ∧ Hid (DR w B g a len cap wr r c n)) (fun s _ => 400 - lenV s)
                case atStart => exact ⟨r, c, n, rfl, by omega, hwr, hst⟩
                case round =>
                  clear hst
                  obtain ⟨r, c, n, rfl, hn, hwr, hDR⟩ := hrel
                  obtain ⟨L, hLn, hO0⟩ := (unhide hDR).own
                  have hO := hide hO0
                  have hD := hide (unhide hDR).ds
                  have hrg : r ≠ g := by omega
                  clear hO0 hDR
                  go_wp2_with fail
                  refine (below_any B g a len cap 2 _ hB hl (unhide hD).cur (unhide hD).rd (by omega)).mono ?_
                  rintro e w10 ⟨y, rfl, y0, y1, hcu, hgr⟩
                  have hO := hide (own_kept (unhide hO) hgr (by omega))
                  have hD := hide ((unhide hD).step hB hcu hgr)
                  clear hcu hgr
                  by_cases hlt : (n : Int) < 300 + y
                  · have hltd : decide ((n : Int) < 300 + y) = true := by simpa using hlt
                    go_wp2_with (at_builtin; refine wpList_kg Try.underlying27 rfl _ _ rfl w.heap.size r n c L rfl (unhide hO) _ rfl rfl (by omega) ?_)
                    intro r' c' w' hown' hgr' hg'
                    have hN : Hid (DR w B g a len cap w' r' c' (n + 1)) := hide ⟨⟨_, own_len hown', hown'⟩, ds_grown (unhide hD) hgr' hwr hgl hB⟩
                    clear hown' hgr' hO hD
                    go_wp2
                    go_roundw
                    case rel => exact ⟨r', c', n + 1, rfl, by omega, hg', hN⟩
                    case measure => simp [lenV]; omega
                  · have hltd : decide ((n : Int) < 300 + y) = false := by simpa using hlt
                    clear hlt
                    go_wp2
                    go_ret
                    exact ⟨r, c, n, rfl, by omega, ⟨⟨L, hLn, unhide hO⟩, unhide hD⟩⟩
            refine AllReadyH.cons (o := { dst := some 59, op := Go.Op.call { callee := Go.Callee.value (Go.Operand.func 28), args := #[Go.Operand.tmp 58, Go.Operand.const (Go.Value.int Go.IntKind.i64 3)], argTypes := #[46, 2] }, type := 2, pos := _, after := #[{ on := 6, ground := Go.Ground.data }], guard := none }) rfl (fun K hK => ?_) AllReadyH.nil
            go_simp
            refine (below_any B g a len cap 3 _ hB hl (unhide hD).cur (unhide hD).rd (by omega)).mono ?_
            rintro e w7 ⟨d, rfl, d0, d1, hcu, hgr⟩
            obtain ⟨m, rfl⟩ : ∃ m : Nat, d = m := ⟨d.toNat, by omega⟩
            have hHz := grown_cell hgr hrg hH0
            have hO := hide (own_kept (unhide hO) hgr (by omega))
            have hD := hide ((unhide hD).step hB hcu hgr)
            clear hcu hgr
            refine hK.out _ _ ?_ (fun hH1 => ?_)
            · exact hHz
            clear hK K
            (try simp only [Act.put, List.setIfInBounds_toArray, List.set_cons_zero, List.set_cons_succ])
            refine wpAnyH_ready (rs := [5]) (by kernel_rfl) (by simp) ?_
            refine AllReadyH.cons (o := { dst := some 57, op := Go.Op.buildSlice 52 3 #[(0, Go.Operand.const (Go.Value.int Go.IntKind.i64 (-1))), (1, Go.Operand.tmp 56), (2, Go.Operand.const (Go.Value.int Go.IntKind.i64 0))], type := 52, pos := _, after := #[{ on := 4, ground := Go.Ground.data }], guard := none }) rfl (fun K hK => ?_) AllReadyH.nil
            go_simp
            have hAl : Below w7.heap.size w7 (w7.alloc (.cells #[.int .i64 (-1), .int .i64 z2, .int .i64 0] 2)) := (Below.refl _ _).alloc (Nat.le_refl _) _
            have hO := hide (ownsRow_below (unhide hO) hAl)
            have hD := hide (ds_alloc (unhide hD) hB (.cells #[.int .i64 (-1), .int .i64 z2, .int .i64 0] 2))
            obtain ⟨u, hu2⟩ := lit3 (w := w7) (T := 2) (k := m) (a0 := -1) (a1 := z2) (a2 := 0) (by omega)
            have hHz2 := cell_later hAl hHz
            clear hAl
            obtain ⟨z1, c1, f1, _, _⟩ := own_at (i := 1) (unhide hO) (by omega)
            refine hK.out _ _ ?_ (fun hHa => ?_)
            · exact hHz2
            clear hK K
            (try simp only [Act.put, List.setIfInBounds_toArray, List.set_cons_zero, List.set_cons_succ])
            refine wpAnyH_take (i := 8) (oi := { dst := some 60, op := Go.Op.indexAddr 52 (Go.Operand.tmp 57) (Go.Operand.tmp 59), type := 0, pos := _, after := #[{ on := 5, ground := Go.Ground.data }, { on := 7, ground := Go.Ground.data }], guard := none }) (v := ?_) rfl (by kernel_rfl) (by kernel_rfl) (by kernel_rfl) (fun _ _ _ h => h) (Or.inl ⟨by rfl, ?_⟩) hHa ?_
            rotate_left
            · (intro w hSw; (try dsimp only at hSw); go_simp <;> with_reducible rfl)
            (try simp only [Act.put, List.setIfInBounds_toArray, List.set_cons_zero, List.set_cons_succ])
            refine wpAnyH_ready (rs := [9]) (by kernel_rfl) (by simp) ?_
            refine AllReadyH.cons (o := { dst := some 61, op := Go.Op.load 2 (Go.Operand.tmp 60), type := 2, pos := _, after := #[{ on := 8, ground := Go.Ground.data }], guard := none }) rfl (fun K hK => ?_) AllReadyH.nil
            go_simp
            refine hK.out _ _ ?_ (fun hHb => ?_)
            · exact hHa
            clear hK K
            (try simp only [Act.put, List.setIfInBounds_toArray, List.set_cons_zero, List.set_cons_succ])
            refine wpAnyH_take (i := 10) (oi := { dst := some 62, op := Go.Op.nilCheck (Go.Operand.tmp 52), type := 0, pos := _, after := #[{ on := 0, ground := Go.Ground.data }, { on := 0, ground := Go.Ground.phase }, { on := 1, ground := Go.Ground.phase }, { on := 2, ground := Go.Ground.phase }, { on := 3, ground := Go.Ground.phase }, { on := 4, ground := Go.Ground.phase }, { on := 5, ground := Go.Ground.phase }, { on := 6, ground := Go.Ground.phase }, { on := 7, ground := Go.Ground.phase }, { on := 8, ground := Go.Ground.phase }, { on := 9, ground := Go.Ground.phase }], guard := none }) (v := ?_) rfl (by kernel_rfl) (by kernel_rfl) (by kernel_rfl) (fun _ _ _ h => h) (Or.inl ⟨by rfl, ?_⟩) hHb ?_
            rotate_left
            · (intro w hSw; (try dsimp only at hSw); go_simp <;> with_reducible rfl)
            (try simp only [Act.put, List.setIfInBounds_toArray, List.set_cons_zero, List.set_cons_succ])
            refine wpAnyH_take (i := 11) (oi := { dst := some 63, op := Go.Op.fieldAddr 34 (Go.Operand.tmp 62) 1, type := 0, pos := _, after := #[{ on := 10, ground := Go.Ground.data }, { on := 0, ground := Go.Ground.phase }, { on := 1, ground := Go.Ground.phase }, { on := 2, ground := Go.Ground.phase }, { on := 3, ground := Go.Ground.phase }, { on := 4, ground := Go.Ground.phase }, { on := 5, ground := Go.Ground.phase }, { on := 6, ground := Go.Ground.phase }, { on := 7, ground := Go.Ground.phase }, { on := 8, ground := Go.Ground.phase }, { on := 9, ground := Go.Ground.phase }], guard := none }) (v := ?_) rfl (by kernel_rfl) (by kernel_rfl) (by kernel_rfl) (fun _ _ _ h => h) (Or.inl ⟨by rfl, ?_⟩) hHb ?_
            rotate_left
            · (intro w hSw; (try dsimp only at hSw); go_simp <;> with_reducible rfl)
            (try simp only [Act.put, List.setIfInBounds_toArray, List.set_cons_zero, List.set_cons_succ])
            refine wpAnyH_ready (rs := [12]) (by kernel_rfl) (by simp) ?_
            refine AllReadyH.cons (o := { dst := none, op := Go.Op.store 2 (Go.Operand.tmp 63) (Go.Operand.tmp 61), type := 0, pos := _, after := #[{ on := 11, ground := Go.Ground.data }, { on := 9, ground := Go.Ground.data }, { on := 7, ground := Go.Ground.chain }, { on := 0, ground := Go.Ground.phase }, { on := 1, ground := Go.Ground.phase }, { on := 2, ground := Go.Ground.phase }, { on := 3, ground := Go.Ground.phase }, { on := 4, ground := Go.Ground.phase }, { on := 5, ground := Go.Ground.phase }, { on := 6, ground := Go.Ground.phase }, { on := 7, ground := Go.Ground.phase }, { on := 8, ground := Go.Ground.phase }, { on := 9, ground := Go.Ground.phase }], guard := none }) rfl (fun K hK => ?_) AllReadyH.nil
            go_simp
            refine hK.out _ _ ?_ (fun hHc => ?_)
            · exact cell_ne (by decide) hHb
            clear hK K
            (try simp only [Act.put, List.setIfInBounds_toArray, List.set_cons_zero, List.set_cons_succ])
            refine wpAnyH_done (by kernel_rfl) ?_ _
            refine NoPanic.normal ?_
            clear hHa hHb hHc hu2 c0 f0 c2
            obtain ⟨L2, hL2, hO2⟩ := own_s1 (v := u) (unhide hO) hn0
            have hD2 := ds_grown (unhide hD) (set_grown (w7.alloc (.cells #[.int .i64 (-1), .int .i64 z2, .int .i64 0] 2)) r 1 (.int .i64 u)) hwr hgl hB
            have hO := hide hO2
            have hD := hide hD2
            have hLn := hL2
            clear hO2 hD2 hL2 c1 f1
            go_wp2_with fail
            refine (once_any B g a len cap 60 _ hB hl (unhide hD).cur (unhide hD).rd (by omega)).mono ?_
            rintro e w9 ⟨v, rfl, hcu, hgr⟩
            have hO := hide (own_kept (unhide hO) hgr (by omega))
            have hD := hide ((unhide hD).step hB hcu hgr)
            clear hcu hgr
            cases v with
            | false =>
              go_wp2
              go_ret
              exact ⟨r, c, n, rfl, by omega, ⟨⟨_, hLn, unhide hO⟩, unhide hD⟩⟩
            | true =>
              have hst : Hid (DR w B g a len cap w9 r c n) := hide ⟨⟨_, hLn, unhide hO⟩, unhide hD⟩
              clear hO hD
              go_wp2
              go_loopw [3] (fun s wr => ∃ (r c n : Nat), s = .slice (some ⟨r, 0, none⟩) n c ∧ n ≤ 302 ∧ w.heap.size ≤ r ∧ Hid (DR w B g a len cap wr r c n)) (fun s _ => 400 - lenV s)
              case atStart => exact ⟨r, c, n, rfl, by omega, hwr, hst⟩
              case round =>
                clear hst
                obtain ⟨r, c, n, rfl, hn, hwr, hDR⟩ := hrel
                obtain ⟨L, hLn, hO0⟩ := (unhide hDR).own
                have hO := hide hO0
                have hD := hide (unhide hDR).ds
                have hrg : r ≠ g := by omega
                clear hO0 hDR
                go_wp2_with fail
                refine (below_any B g a len cap 2 _ hB hl (unhide hD).cur (unhide hD).rd (by omega)).mono ?_
                rintro e w10 ⟨y, rfl, y0, y1, hcu, hgr⟩
                have hO := hide (own_kept (unhide hO) hgr (by omega))
                have hD := hide ((unhide hD).step hB hcu hgr)
                clear hcu hgr
                by_cases hlt : (n : Int) < 300 + y
                · have hltd : decide ((n : Int) < 300 + y) = true := by simpa using hlt
                  go_wp2_with (at_builtin; refine wpList_kg Try.underlying27 rfl _ _ rfl w.heap.size r n c L rfl (unhide hO) _ rfl rfl (by omega) ?_)
                  intro r' c' w' hown' hgr' hg'
                  have hN : Hid (DR w B g a len cap w' r' c' (n + 1)) := hide ⟨⟨_, own_len hown', hown'⟩, ds_grown (unhide hD) hgr' hwr hgl hB⟩
                  clear hown' hgr' hO hD
                  go_wp2
                  go_roundw
                  case rel => exact ⟨r', c', n + 1, rfl, by omega, hg', hN⟩
                  case measure => simp [lenV]; omega
                · have hltd : decide ((n : Int) < 300 + y) = false := by simpa using hlt
                  clear hlt
                  go_wp2
                  go_ret
                  exact ⟨r, c, n, rfl, by omega, ⟨⟨L, hLn, unhide hO⟩, unhide hD⟩⟩
          · have hAl : Below w6.heap.size w6 (w6.alloc (.cells #[.int .i64 (10000000), .int .i64 (10000001)] 2)) := (Below.refl _ _).alloc (Nat.le_refl _) _
            have hO := hide (ownsRow_below (unhide hO) hAl)
            have hlg : w6.heap.size ≠ g := by have := (unhide hD).cur.lt; omega
            have hD := hide (ds_alloc (unhide hD) hB (.cells #[.int .i64 (10000000), .int .i64 (10000001)] 2))
            have hl5 := fun k hk => lit2 (w := w6) (T := 2) (k := k) (a0 := 10000000) (a1 := 10000001) hk
            clear hAl
            go_wp2_with fail
            refine (below_any B g a len cap 2 _ hB hl (unhide hD).cur (unhide hD).rd (by omega)).mono ?_
            rintro e w7 ⟨d, rfl, d0, d1, hcu, hgr⟩
            obtain ⟨m, rfl⟩ : ∃ m : Nat, d = m := ⟨d.toNat, by omega⟩
            obtain ⟨u, hu⟩ := hl5 m (by omega)
            have hu2 := grown_cell hgr hlg hu
            have hO := hide (own_kept (unhide hO) hgr (by omega))
            have hD := hide ((unhide hD).step hB hcu hgr)
            clear hcu hgr hu hl5
            obtain ⟨z0, c0, f0, _, _⟩ := own_at (i := 2) (unhide hO) (by omega)
            obtain ⟨L2, hL2, hO2⟩ := own_s2 (v := u) (unhide hO) hn0
            have hD2 := ds_grown (unhide hD) (set_grown w7 r 2 (.int .i64 u)) hwr hgl hB
            have hO := hide hO2
            have hD := hide hD2
            have hLn := hL2
            clear hO2 hD2 hL2
            go_wp2_with fail
            refine (once_any B g a len cap 60 _ hB hl (unhide hD).cur (unhide hD).rd (by omega)).mono ?_
            rintro e w9 ⟨v, rfl, hcu, hgr⟩
            have hO := hide (own_kept (unhide hO) hgr (by omega))
            have hD := hide ((unhide hD).step hB hcu hgr)
            clear hcu hgr
            cases v with
            | false =>
              go_wp2
              go_ret
              exact ⟨r, c, n, rfl, by omega, ⟨⟨_, hLn, unhide hO⟩, unhide hD⟩⟩
            | true =>
              have hst : Hid (DR w B g a len cap w9 r c n) := hide ⟨⟨_, hLn, unhide hO⟩, unhide hD⟩
              clear hO hD
              go_wp2
              go_loopw [3] (fun s wr => ∃ (r c n : Nat), s = .slice (some ⟨r, 0, none⟩) n c ∧ n ≤ 302 ∧ w.heap.size ≤ r ∧ Hid (DR w B g a len cap wr r c n)) (fun s _ => 400 - lenV s)
              case atStart => exact ⟨r, c, n, rfl, by omega, hwr, hst⟩
              case round =>
                clear hst
                obtain ⟨r, c, n, rfl, hn, hwr, hDR⟩ := hrel
                obtain ⟨L, hLn, hO0⟩ := (unhide hDR).own
                have hO := hide hO0
                have hD := hide (unhide hDR).ds
                have hrg : r ≠ g := by omega
                clear hO0 hDR
                go_wp2_with fail
                refine (below_any B g a len cap 2 _ hB hl (unhide hD).cur (unhide hD).rd (by omega)).mono ?_
                rintro e w10 ⟨y, rfl, y0, y1, hcu, hgr⟩
                have hO := hide (own_kept (unhide hO) hgr (by omega))
                have hD := hide ((unhide hD).step hB hcu hgr)
                clear hcu hgr
                by_cases hlt : (n : Int) < 300 + y
                · have hltd : decide ((n : Int) < 300 + y) = true := by simpa using hlt
                  go_wp2_with (at_builtin; refine wpList_kg Try.underlying27 rfl _ _ rfl w.heap.size r n c L rfl (unhide hO) _ rfl rfl (by omega) ?_)
                  intro r' c' w' hown' hgr' hg'
                  have hN : Hid (DR w B g a len cap w' r' c' (n + 1)) := hide ⟨⟨_, own_len hown', hown'⟩, ds_grown (unhide hD) hgr' hwr hgl hB⟩
                  clear hown' hgr' hO hD
                  go_wp2
                  go_roundw
                  case rel => exact ⟨r', c', n + 1, rfl, by omega, hg', hN⟩
                  case measure => simp [lenV]; omega
                · have hltd : decide ((n : Int) < 300 + y) = false := by simpa using hlt
                  clear hlt
                  go_wp2
                  go_ret
                  exact ⟨r, c, n, rfl, by omega, ⟨⟨L, hLn, unhide hO⟩, unhide hD⟩⟩
        · have hnd : decide ((0 : Int) < (n : Int)) = false := by simp; omega
          go_wp2_with fail
          refine (once_any B g a len cap 60 _ hB hl (unhide hD).cur (unhide hD).rd (by omega)).mono ?_
          rintro e w9 ⟨v, rfl, hcu, hgr⟩
          have hO := hide (own_kept (unhide hO) hgr (by omega))
          have hD := hide ((unhide hD).step hB hcu hgr)
          clear hcu hgr
          cases v with
          | false =>
            go_wp2
            go_ret
            exact ⟨r, c, n, rfl, by omega, ⟨⟨_, hLn, unhide hO⟩, unhide hD⟩⟩
          | true =>
            have hst : Hid (DR w B g a len cap w9 r c n) := hide ⟨⟨_, hLn, unhide hO⟩, unhide hD⟩
            clear hO hD
            go_wp2
            go_loopw [3] (fun s wr => ∃ (r c n : Nat), s = .slice (some ⟨r, 0, none⟩) n c ∧ n ≤ 302 ∧ w.heap.size ≤ r ∧ Hid (DR w B g a len cap wr r c n)) (fun s _ => 400 - lenV s)
            case atStart => exact ⟨r, c, n, rfl, by omega, hwr, hst⟩
            case round =>
              clear hst
              obtain ⟨r, c, n, rfl, hn, hwr, hDR⟩ := hrel
              obtain ⟨L, hLn, hO0⟩ := (unhide hDR).own
              have hO := hide hO0
              have hD := hide (unhide hDR).ds
              have hrg : r ≠ g := by omega
              clear hO0 hDR
              go_wp2_with fail
              refine (below_any B g a len cap 2 _ hB hl (unhide hD).cur (unhide hD).rd (by omega)).mono ?_
              rintro e w10 ⟨y, rfl, y0, y1, hcu, hgr⟩
              have hO := hide (own_kept (unhide hO) hgr (by omega))
              have hD := hide ((unhide hD).step hB hcu hgr)
              clear hcu hgr
              by_cases hlt : (n : Int) < 300 + y
              · have hltd : decide ((n : Int) < 300 + y) = true := by simpa using hlt
                go_wp2_with (at_builtin; refine wpList_kg Try.underlying27 rfl _ _ rfl w.heap.size r n c L rfl (unhide hO) _ rfl rfl (by omega) ?_)
                intro r' c' w' hown' hgr' hg'
                have hN : Hid (DR w B g a len cap w' r' c' (n + 1)) := hide ⟨⟨_, own_len hown', hown'⟩, ds_grown (unhide hD) hgr' hwr hgl hB⟩
                clear hown' hgr' hO hD
                go_wp2
                go_roundw
                case rel => exact ⟨r', c', n + 1, rfl, by omega, hg', hN⟩
                case measure => simp [lenV]; omega
              · have hltd : decide ((n : Int) < 300 + y) = false := by simpa using hlt
                clear hlt
                go_wp2
                go_ret
                exact ⟨r, c, n, rfl, by omega, ⟨⟨L, hLn, unhide hO⟩, unhide hD⟩⟩

end Go.Proofs.Ytfbifffmieimoaa.Rl
