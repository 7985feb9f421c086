/-
  Contracts of the model's and the program's Scope; nothing that was there is written.
-/
import Derived.Test.YtdmcbdogpeidjaaTri
namespace Go.Proofs.Ytdmcbdogpeidjaa
open Go.RowKit
set_option linter.unusedVariables false
set_option linter.unusedSimpArgs false

set_option maxHeartbeats 1600000 in
theorem icos_any (a : Option Addr) (cap : Nat) (l : List Kl) (v : Bool) (w : World) (hl : l.length ≤ maxLen) (hk : Kls w a l) (hv : v = true ↔ CsOk l) :
    Calls Try.prog 53 #[.slice a l.length cap] w fun e w' => e = .returned (.bool v) ∧ Below w.heap.size w w' := by
  have hk' := hide hk
  have hv' := hide hv
  clear hk hv
  unfold maxLen at hl
  go_enter Try.func53, Try.ntmps53
  go_wp2
  go_loopw [7] (fun t wr => ∃ k : Nat, k ≤ l.length ∧ t = .int .i64 k ∧ Hid (CsPre l k) ∧ Hid (Below w.heap.size w wr)) (fun t _ => l.length - (intOf t).toNat)
  case atStart => exact ⟨0, by omega, rfl, hide (CsPre.zero l), hide (Below.refl _ _)⟩
  case round =>
    obtain ⟨k, hk, rfl, hA, hw⟩ := hrel
    by_cases hlt : k < l.length
    · obtain ⟨b, o, x, y, z, rfl, hx, hbl, c0, c1, c2⟩ := kls_at (unhide hk') (unhide hw) hlt
      have hx' := hide hx
      clear hx hbl
      by_cases f0 : CoOk (x, y, z)
      · have hS := hide (decide_eq_true f0)
        have hnew := hide ((unhide hA).step (unhide hx') f0)
        clear f0 hA
        go_wp2_with fail
        refine (ico_any x y z true _ (unhide hS)).mono ?_
        rintro e w1 ⟨rfl, hb⟩
        have hw1 := hide (laterB ((unhide hw).alloc (unhide hw).size _) hb)
        clear hb hw
        go_wp2
        go_roundw
        case rel => exact ⟨k + 1, by omega, by go_num, hnew, hw1⟩
        case measure => simp [intOf]; omega
      · have hS := hide (decide_eq_false f0)
        have hno : v = false := by cases v with | false => rfl | true => exact absurd ((unhide hv').1 rfl) (csno (unhide hx') f0)
        subst hno
        clear f0 hA
        go_wp2_with fail
        refine (ico_any x y z false _ (unhide hS)).mono ?_
        rintro e w1 ⟨rfl, hb⟩
        have hw1 := hide (laterB ((unhide hw).alloc (unhide hw).size _) hb)
        clear hb hw
        go_wp2
        go_ret
        exact ⟨rfl, unhide hw1⟩
    · have hke : k = l.length := by omega
      have hyes : v = true := (unhide hv').2 (CsPre.all (by have := unhide hA; rw [hke] at this; exact this))
      subst hyes
      clear hA
      go_wp2
      go_ret
      exact ⟨rfl, unhide hw⟩

/-- the answer: sixteen numbers, or none, in memory of its own -/
def ScP (w : World) (l : List Int) (e : Ending) (w' : World) : Prop := ∃ g, e = .returned (.slice (some ⟨g, 0, none⟩) l.length l.length) ∧ w.heap.size ≤ g ∧ OwnI w' w.heap.size g l.length l.length l ∧ Below w.heap.size w w'

/-- one colour more in an owned list of counts -/
theorem cnt_step {w : World} {B g : Nat} {l : List Kl} {k : Nat} {c : Kl} (hk : l[k]? = some c) (hc : CoOk c) (h : OwnI w B g 16 16 (cntOf (l.take k))) :
    ∃ (j : Nat) (q : Int), j < 16 ∧ (c.1 + 2 * c.2.1 + c.2.2) / 4 / 4096 = (j : Int) ∧ w.cell? ⟨g, j, none⟩ = some (.int .i64 q) ∧ 0 ≤ q ∧ q ≤ k ∧ w.frozen? ⟨g, j, none⟩ = false ∧ OwnI (w.setCell ⟨g, j, none⟩ (.int .i64 (q + 1))) B g 16 16 (cntOf (l.take (k + 1))) := by
  obtain ⟨h1, h2⟩ := scAt_lt hc
  have hle : ((l.take k).length : Int) ≤ k := by simp; omega
  obtain ⟨q0, q1⟩ := cnt_at (l.take k) (scAt c)
  have hlen := cnt_len (l.take k)
  have hg : (cntOf (l.take k))[scAt c]? = some ((cntOf (l.take k)).getD (scAt c) 0) := by
    rw [List.getElem?_eq_getElem (by omega)]; simp [List.getD, List.getElem?_eq_getElem (show scAt c < (cntOf (l.take k)).length by omega)]
  refine ⟨scAt c, (cntOf (l.take k)).getD (scAt c) 0, h1, h2.symm, ownI_at hg h, q0, by omega, h.frozenAt _, ?_⟩
  rw [take_snocK hk, cnt_snoc]
  exact ownI_put _ _ h

set_option maxHeartbeats 3200000 in
theorem isco_any (a : Option Addr) (cap : Nat) (l : List Kl) (w : World) (hl : l.length ≤ maxLen) (hk : Kls w a l) :
    Calls Try.prog 16 #[.slice a l.length cap] w fun e w' => ScP w (scOf l) e w' := by
  have hk' := hide hk
  have hl' := hide hl
  clear hk
  unfold maxLen at hl
  by_cases hbig : 4096 < l.length
  · rw [sc_no (fun h => by have := h.1; omega)]
    have g1 : decide ((4096 : Int) < l.length) = true := by simp; omega
    go_enter Try.func16, Try.ntmps16
    go_wp2
    go_ret
    exact ⟨_, rfl, Nat.le_refl _, ownI_lit0 w (Nat.le_refl _), (Below.refl _ _).alloc (Nat.le_refl _) _⟩
  have g1 : decide ((4096 : Int) < l.length) = false := by simp; omega
  have hle : l.length ≤ 4096 := by omega
  clear hbig hl
  by_cases hC : CsOk l
  · rw [sc_yes ⟨hle, hC⟩]
    have hC' := hide hC
    clear hC
    obtain ⟨i0, hi, hz0, hz1, hz2⟩ := info_parts infoI
    obtain ⟨L, hL⟩ : ∃ L, cntOf l = L := ⟨_, rfl⟩
    have hL' := hide hL
    rw [hL]
    have hLn : L.length = 16 := by rw [← hL]; exact cnt_len l
    clear hL
    unfold ScP
    rw [hLn]
    have hLn' := hide hLn
    clear hLn
    go_enter Try.func16, Try.ntmps16
    go_wp2_with fail
    refine (icos_any a cap l true _ (unhide hl') (unhide hk') ⟨fun _ => unhide hC', fun _ => rfl⟩).mono ?_
    rintro e w1 ⟨rfl, hb1⟩
    have H1 := hide hb1
    clear hb1
    go_wp2_with (refine wpList_make_full _ rfl _ _ 31 rfl w1.heap.size 2 i0 (.int .i64 0) 1 Try.underlying31 hi hz0 hz1 .i64 .i64 _ _ 16 rfl rfl rfl rfl ?b2 ?b3 (Nat.le_refl _) ?_)
    case b2 => rw [hz2]; omega
    case b3 => unfold maxLen; omega
    intro w2 hown hg
    have hb2 : Below w1.heap.size w1 w2 := (Below.refl _ _).grown hg (Nat.le_refl _) (fun k hk => by cases hk)
    have hown1 : Hid (OwnI w2 w.heap.size w1.heap.size 16 16 (cntOf (l.take 0))) := hide (by
      have e : (cntOf (l.take 0)).map iv = (madeCells #[.int .i64 0] 16).toList := by rw [made_I]; rfl
      show World.ownsRow _ _ _ _ _ _ _
      rw [e]; exact own_mono hown (unhide H1).size)
    have H2 := hide (laterB (unhide H1) hb2)
    have hsz := (unhide H1).size
    clear hown hg hb2 H1
    generalize w1.heap.size = g at *
    go_wp2
    go_loopw [18] (fun t wr => ∃ k : Nat, k ≤ l.length ∧ t = .int .i64 k ∧ Hid (OwnI wr w.heap.size g 16 16 (cntOf (l.take k))) ∧ Hid (Below w.heap.size w wr)) (fun t _ => l.length - (intOf t).toNat)
    case atStart => exact ⟨0, by omega, rfl, hown1, H2⟩
    case round =>
      clear hown1 H2
      obtain ⟨k, hk, rfl, hO, hw⟩ := hrel
      by_cases hlt : k < l.length
      · obtain ⟨b, o, x, y, z, rfl, hx, hbl, c0, c1, c2⟩ := kls_at (unhide hk') (unhide hw) hlt
        have hco : CoOk (x, y, z) := (unhide hC').at hx
        have hal : Below wr.heap.size wr (wr.alloc (.cells #[.int .i64 x, .int .i64 y, .int .i64 z] 26)) := (Below.refl _ _).alloc (Nat.le_refl _) _
        obtain ⟨j, q, j1, hj, cq, q0, q1, fq, hnew⟩ := cnt_step hx hco (ownsRow_below (unhide hO) hal)
        obtain ⟨⟨x0, x1⟩, ⟨y0, y1⟩, ⟨z0, z1⟩⟩ := hco
        simp only at x0 x1 y0 y1 z0 z1 hj
        have hnew' := hide hnew
        have hwn := hide (laterB (unhide hw) hal)
        have j2 : (j : Int) < 16 := by omega
        have j0 : (0 : Int) ≤ (j : Int) := by omega
        clear hx hbl hal hnew hO
        go_wp2
        go_roundw
        case rel => exact ⟨k + 1, by omega, by go_num, hnew', hide ((unhide hwn).setCell (by simp <;> omega) _)⟩
        case measure => simp [intOf]; omega
      · have hke : k = l.length := by omega
        have hf : Hid (OwnI wr w.heap.size g 16 16 L) := hide (by have := unhide hO; rw [hke, List.take_length, unhide hL'] at this; exact this)
        clear hO
        go_wp2
        go_ret
        exact ⟨_, rfl, hsz, unhide hf, unhide hw⟩
  · rw [sc_no (fun h => hC h.2)]
    have hC' := hide hC
    clear hC
    go_enter Try.func16, Try.ntmps16
    go_wp2_with fail
    refine (icos_any a cap l false _ (unhide hl') (unhide hk') ⟨(fun h => by cases h), fun h => absurd h (unhide hC')⟩).mono ?_
    rintro e w1 ⟨rfl, hb1⟩
    have H1 := hide hb1
    clear hb1
    go_wp2
    go_ret
    exact ⟨_, rfl, (unhide H1).size, ownI_lit0 w1 (unhide H1).size, (unhide H1).alloc (unhide H1).size _⟩

end Go.Proofs.Ytdmcbdogpeidjaa
