/-
  The model's draw of a cube and a colour: its contract.
-/
import Derived.Test.YtdmcbdogpeidjaaDrCb
import Derived.Test.YtdmcbdogpeidjaaDrKm
namespace Go.Proofs.Ytdmcbdogpeidjaa
open Go.RowKit
set_option linter.unusedVariables false
set_option linter.unusedSimpArgs false

theorem Kls.blk {w w' : World} {r o : Nat} {l : List Kl} (h : Kls w (some ⟨r, o, none⟩) l) (hb : w'.heap[r]? = w.heap[r]?) (hs : w.heap.size ≤ w'.heap.size) : Kls w' (some ⟨r, o, none⟩) l := by
  intro j x hx
  obtain ⟨b, o', e, h1, c0, c1, c2⟩ := h j x hx
  injection e with e
  injection e with e1 e2
  subst e1 e2
  have C := fun i => World.cell?_of_block (a := ⟨r, i, none⟩) hb
  exact ⟨r, o, rfl, by omega, (C _).trans c0, (C _).trans c1, (C _).trans c2⟩

set_option maxHeartbeats 3200000 in
theorem dcube_any (a : Option Addr) (len cap : Nat) (w : World) (hl : len ≤ 4096) (hr : RdB w w.heap.size a len) :
    Calls Try.prog 12 #[.slice a len cap] w fun e w' => ∃ (n : Int) (r o c : Nat) (L : List Kl) (x y z : Int), e = .returned (.tuple #[.int .i64 n, .slice (some ⟨r, o, none⟩) L.length c, ag3 x y z]) ∧ TG L ∧ L.length ≤ 729 ∧ LvOk y ∧ LvOk z ∧ Kls w' (some ⟨r, o, none⟩) L ∧ Below w.heap.size w w' := by
  have hr' := hide hr
  clear hr
  have hal0 : Below w.heap.size w (w.alloc (.cells #[.int .i64 0, .int .i64 0, .int .i64 0] 26)) := (Below.refl _ _).alloc (Nat.le_refl _) _
  go_enter Try.func12, Try.ntmps12
  go_wp2_with fail
  refine (new_any a len cap _ (by omega) (by omega) ((show RdB (w.alloc (.cells #[.int .i64 0, .int .i64 0, .int .i64 0] 26)) (w.alloc (.cells #[.int .i64 0, .int .i64 0, .int .i64 0] 26)).heap.size a len from fun j hj => by obtain ⟨b, o, z, e, hb, hc, h0, h1⟩ := (unhide hr').blw hal0 (Nat.le_refl _) j hj; exact ⟨b, o, z, e, by simp; omega, hc, h0, h1⟩))).mono ?_
  rintro e w1 ⟨g, rfl, hg, hc1, hb1⟩
  have hgg : w.heap.size < g := by simp at hg; omega
  have R1 : Hid (Bx w1 w.heap.size 0 0 0) := hide (Bx.below (Bx.new w 26 0 0 0) hb1)
  have H1 := hide (hal0.trans (hb1.mono (by simp)))
  have rd1 := hide (((unhide hr').blw hal0 (Nat.le_refl _)).blw hb1 (by simp))
  have c1 := hide hc1
  have gl1 := hc1.lt
  clear hal0 hg hc1 hb1 hr'
  go_wp2_with fail
  refine (dcub_any w.heap.size g a len cap _ (by omega) gl1 (by omega) (unhide c1) (unhide rd1)).mono ?_
  rintro e w2 ⟨n, r, o, c, L, rfl, hTG, hLn, hwr, hK, k2, g2⟩
  have R2 := hide ((unhide R1).grown g2 (by omega))
  have H2 := hide (bel_cur (unhide H1) g2 (by omega))
  have rd2 := hide ((unhide rd1).grown g2 (by omega))
  have K2 := hide hK
  have T2 := hide hTG
  have c2 := hide k2
  have hs2 := g2.size
  clear R1 H1 rd1 c1 hK hTG k2 g2
  go_wp2_with fail
  refine (drgb_any w.heap.size g a len cap _ (by omega) (unhide H2).size (by omega) (unhide c2) (unhide rd2)).mono ?_
  rintro e w3 ⟨x, y, z, rfl, ly, lz, k3, g3⟩
  have R3 := hide ((unhide R2).grown g3 (by omega))
  have H3 := hide (bel_cur (unhide H2) g3 (by omega))
  have K3 : Hid (Kls w3 (some ⟨r, o, none⟩) L) := hide (by
    by_cases hz : r < w2.heap.size
    · exact (unhide K2).blk (g3.block r hz (by intro e; injection e with e; omega)) g3.size
    · intro j q hj
      obtain ⟨b, o', e, h1, _⟩ := unhide K2 j q hj
      injection e with e
      injection e with e1 e2
      omega)
  have Ly := hide ly
  have Lz := hide lz
  clear R2 H2 K2 c2 rd2 k3 g3 ly lz
  obtain ⟨p0, p1, p2, fp0, fp1, fp2⟩ := unhide R3
  go_wp2
  refine bodyPost_ret (v := .tuple #[.int .i64 n, .slice (some ⟨r, o, none⟩) L.length c, ag3 x y z]) (by simp [results, Try.results12, go_sem, p0, p1, p2]) rfl ⟨n, r, o, c, L, x, y, z, rfl, unhide T2, hLn, unhide Ly, unhide Lz, ?_, ?_⟩
  · refine (unhide K3).blk ?_ (by simp)
    rw [heap_set_ne (by omega), heap_set_ne (by omega), heap_set_ne (by omega)]
  · exact (((unhide H3).setCell (by simp <;> omega) _).setCell (by simp <;> omega) _).setCell (by simp <;> omega) _
end Go.Proofs.Ytdmcbdogpeidjaa
