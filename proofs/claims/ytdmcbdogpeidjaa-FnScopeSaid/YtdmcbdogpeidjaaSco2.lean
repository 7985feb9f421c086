/-
  Contract of the model's Scope; nothing that was there is written.
-/
import Derived.Test.YtdmcbdogpeidjaaSco
namespace Go.Proofs.Ytdmcbdogpeidjaa
open Go.RowKit
set_option linter.unusedVariables false
set_option linter.unusedSimpArgs false

set_option maxHeartbeats 3200000 in
theorem ssco_any (a : Option Addr) (cap : Nat) (l : List Kl) (w : World) (hl : l.length ≤ maxLen) (hk : Kls w a l) :
    Calls Try.prog 18 #[.slice a l.length cap] w fun e w' => ScP w (scOf l) e w' := by
  have hk' := hide hk
  clear hk
  unfold maxLen at hl
  by_cases hbig : 4096 < l.length
  · rw [sc_no (fun h => by have := h.1; omega)]
    have g1 : decide ((4096 : Int) < l.length) = true := by simp; omega
    go_enter Try.func18, Try.ntmps18
    go_wp2
    go_ret
    exact ⟨_, rfl, Nat.le_refl _, ownI_lit0 w (Nat.le_refl _), (Below.refl _ _).alloc (Nat.le_refl _) _⟩
  have g1 : decide ((4096 : Int) < l.length) = false := by simp; omega
  have hle : l.length ≤ 4096 := by omega
  clear hbig hl
  obtain ⟨i0, hi, hz0, hz1, hz2⟩ := info_parts infoI
  obtain ⟨L, hL⟩ : ∃ L, scOf l = L := ⟨_, rfl⟩
  have hL' := hide hL
  rw [hL]
  clear hL
  go_enter Try.func18, Try.ntmps18
  go_wp2_with (refine wpList_make_full _ rfl _ _ 31 rfl w.heap.size 2 i0 (.int .i64 0) 1 Try.underlying31 hi hz0 hz1 .i64 .i64 _ _ 16 rfl rfl rfl rfl ?b2 ?b3 (Nat.le_refl _) ?_)
  case b2 => rw [hz2]; omega
  case b3 => unfold maxLen; omega
  intro w2 hown hg
  have hb2 : Below w.heap.size w w2 := (Below.refl _ _).grown hg (Nat.le_refl _) (fun k hk => by cases hk)
  have hown1 : Hid (OwnI w2 w.heap.size w.heap.size 16 16 (cntOf (l.take 0))) := hide (by
    have e : (cntOf (l.take 0)).map iv = (madeCells #[.int .i64 0] 16).toList := by rw [made_I]; rfl
    show World.ownsRow _ _ _ _ _ _ _
    rw [e]; exact hown)
  have H2 := hide hb2
  clear hown hg hb2
  generalize hgd : w.heap.size = g at *
  have hgd' := hide hgd
  clear hgd
  go_wp2
  go_loopw [4] (fun t wr => ∃ k : Nat, k ≤ l.length ∧ t = .int .i64 k ∧ Hid (CsPre l k) ∧ Hid (OwnI wr g g 16 16 (cntOf (l.take k))) ∧ Hid (Below g w wr)) (fun t _ => l.length - (intOf t).toNat)
  case atStart => exact ⟨0, by omega, rfl, hide (CsPre.zero l), hown1, H2⟩
  case round =>
    clear hown1 H2
    obtain ⟨k, hk, rfl, hA, hO, hw⟩ := hrel
    by_cases hlt : k < l.length
    · obtain ⟨b, o, x, y, z, rfl, hx, hbl, c0, c1, c2⟩ := kls_at (unhide hk') (by rw [unhide hgd']; exact unhide hw) hlt
      have hx' := hide hx
      clear hx
      by_cases f0 : CoOk (x, y, z)
      · have hS := hide (decide_eq_true f0)
        have hnew := hide ((unhide hA).step (unhide hx') f0)
        have hco := hide f0
        obtain ⟨⟨x0, x1⟩, ⟨y0, y1⟩, ⟨z0, z1⟩⟩ := f0
        simp only at x0 x1 y0 y1 z0 z1
        clear hA
        go_wp2_with fail
        refine (sco_any x y z true _ (unhide hS)).mono ?_
        rintro e w1 ⟨rfl, hb⟩
        have c3 := cell_later hb c0
        have c4 := cell_later hb c1
        have c5 := cell_later hb c2
        have hw1 := hide ((unhide hw).trans (hb.mono (by have := (unhide hw).size; rw [unhide hgd'] at this; exact this)))
        have hO1 := hide (ownsRow_below (unhide hO) hb)
        clear hb hw c0 c1 c2 hO
        go_wp2_with fail
        go_quiet (fail)
        obtain ⟨j, q, j1, hj, cq, q0, q1, fq, hn⟩ := cnt_step (w := w1.drewN nq) (unhide hx') (unhide hco) (own_blk (unhide hO1) ((below_drewN (Below.refl w1.heap.size w1) nq)) (own_lt (unhide hO1)))
        simp only at hj
        have hn' := hide hn
        have j2 : (j : Int) < 16 := by omega
        have j0 : (0 : Int) ≤ (j : Int) := by omega
        clear hn hbl
        go_wp2
        go_roundw
        case rel => exact ⟨k + 1, by omega, by go_num, hnew, hn', hide ((below_drewN (unhide hw1) _).setCell (Nat.le_refl _) _)⟩
        case measure => simp [intOf]; omega
      · have hS := hide (decide_eq_false f0)
        have hLe : L = [] := by rw [← unhide hL', sc_no (fun h => f0 (h.2.at (unhide hx')))]
        subst hLe
        clear f0 hA hbl
        go_wp2_with fail
        refine (sco_any x y z false _ (unhide hS)).mono ?_
        rintro e w1 ⟨rfl, hb⟩
        have hw1 := hide ((unhide hw).trans (hb.mono (by have := (unhide hw).size; rw [unhide hgd'] at this; exact this)))
        clear hb hw
        go_wp2
        go_ret
        have hsz := (unhide hw1).size
        rw [← unhide hgd'] at hw1
        exact ⟨_, rfl, hsz, ownI_lit0 w1 hsz, (unhide hw1).alloc hsz _⟩
    · have hke : k = l.length := by omega
      have hC : CsOk l := CsPre.all (by have := unhide hA; rw [hke] at this; exact this)
      have hLe : cntOf l = L := by rw [← unhide hL', sc_yes ⟨hle, hC⟩]
      have hLn : L.length = 16 := by rw [← hLe]; exact cnt_len l
      have hf : Hid (OwnI wr g g 16 16 L) := hide (by have := unhide hO; rw [hke, List.take_length, hLe] at this; exact this)
      have hLn' := hide hLn
      clear hO hLe hLn hC
      go_wp2
      go_ret
      rw [← unhide hgd'] at hf hw
      unfold ScP
      rw [unhide hLn']
      exact ⟨w.heap.size, by rw [unhide hgd']; rfl, Nat.le_refl _, unhide hf, unhide hw⟩

end Go.Proofs.Ytdmcbdogpeidjaa
