/-
  Contracts of the program's Retime and Reverse; answers are new memory, nothing that was there is written.
-/
import Derived.Test.YtkpojifblcdgcaaSht
namespace Go.Proofs.Ytkpojifblcdgcaa.Y
open Go.RowKit
open Go.Proofs.Ytkpojifblcdgcaa
set_option linter.unusedVariables false
set_option linter.unusedSimpArgs false

theorem ret_asTr {l : List Ky} {s : Int} {n : Nat} (hK : KsOk l) (hs : InR s 1 500) (hn : InR (n : Int) 1 2000) : retOf l s (n : Int) = asTr (retL l s n) := by
  rw [ret_yes ⟨hK, hs, hn⟩, Int.toNat_natCast, edit_ret hK hs]; rfl
theorem rev_asTr {l : List Kl} {n : Nat} (hT : TOk l) (hc : clen l = n) (hn : n ≤ 2000) : revOf l = asTr (revP l n) := by
  rw [rev_prog hT (by omega), hc, Int.toNat_natCast]; rfl
/-- the boxes: the keys, the source -/
def RtB (W : World) (B : Nat) (v : Value) (s : Int) : Prop := W.cell? ⟨B, 0, none⟩ = some v ∧ W.cell? ⟨B + 1, 0, none⟩ = some (.int .i64 s) ∧ B + 1 < W.heap.size
theorem RtB.later {W W' : World} {B : Nat} {v : Value} {s : Int} (h : RtB W B v s) (hb : Below W.heap.size W W') : RtB W' B v s :=
  ⟨cell_later hb h.1, cell_later hb h.2.1, Nat.lt_of_lt_of_le h.2.2 hb.size⟩
/-- a track in a box of its own -/
def BkB (W : World) (P : Nat) (v : Value) (n : Int) : Prop := W.cell? ⟨P, 0, none⟩ = some v ∧ W.cell? ⟨P, 1, none⟩ = some (.int .i64 n) ∧ P < W.heap.size
theorem BkB.later {W W' : World} {B : Nat} {v : Value} {s : Int} (h : BkB W B v s) (hb : Below W.heap.size W W') : BkB W' B v s :=
  ⟨cell_later hb h.1, cell_later hb h.2.1, Nat.lt_of_lt_of_le h.2.2 hb.size⟩
set_option maxHeartbeats 400000 in
theorem bwd_any (a : Option Addr) (k cap : Nat) (n : Int) (w : World) :
    Calls Try.prog 18 #[.agg #[.slice a k cap, .int .i64 n]] w fun e w' => ∃ P, e = .returned (.func (.func 28) #[] #[.pointer (some ⟨P, 0, none⟩)]) ∧ BkB w' P (.slice a k cap) n ∧ Below w.heap.size w w' := by
  have hb := hide (show BkB (w.alloc (.cells #[.slice a k cap, .int .i64 n] 43)) w.heap.size (.slice a k cap) n from ⟨by simp [go_sem], by simp [go_sem], by simp⟩)
  go_enter Try.func18, Try.ntmps18
  go_wp2
  go_ret
  exact ⟨w.heap.size, rfl, unhide hb, (Below.refl _ _).alloc (Nat.le_refl _) _⟩

set_option maxHeartbeats 3200000 in
theorem irev_any (a : Option Addr) (cap : Nat) (l : List Kl) (R : Option (List Kl)) (w : World) (hl : l.length ≤ maxLen) (hk : Kls w a l) (hR : revOf l = R) :
    Calls Try.prog 6 #[.slice a l.length cap] w fun e w' => EdR w w' R e := by
  have hk' := hide hk
  have hl' := hide hl
  have hR' := hide hR
  clear hk hl hR
  by_cases hT : TOk l
  · have hT' := hide hT
    have hc9 := hT.2.2
    have hc0 := clen_nonneg hT.2.1
    have ho := hide (opened_ok a cap l w hT (unhide hk'))
    obtain ⟨n, hn⟩ : ∃ n : Nat, clen l = n := ⟨(clen l).toNat, by omega⟩
    rw [hn] at ho
    have hn' := hide hn
    rw [hn] at hc9
    clear hT hc0 hn
    by_cases h2 : 2000 < n
    · have hr : R = none := by rw [← unhide hR']; exact rev_no (fun h => by have := h.2; rw [unhide hn'] at this; omega)
      have h2' : decide ((2000 : Int) < (n : Int)) = true := by simp; omega
      go_enter Try.func6, Try.ntmps6
      go_wp2_with fail
      refine (unhide ho).mono ?_
      rintro e w1 ⟨rfl, hb1⟩
      have H1 := hide hb1
      clear hb1 ho
      go_wp2
      exact bodyPost_ret (v := .tuple #[.slice (some ⟨w1.heap.size + 1, 0, none⟩) 0 0, .bool false]) (by simp [results, Try.results6, go_sem]) rfl (by
        have := edR_none (wx := w1.alloc (.cells #[.slice a l.length cap, .int .i64 (n : Nat)] 43)) hr ((unhide H1).alloc (unhide H1).size _)
        simpa using this)
    · have hr : asTr (revP l n) = R := by rw [← unhide hR', rev_asTr (unhide hT') (unhide hn') (by omega)]
      have h2' : decide ((2000 : Int) < (n : Int)) = false := by simp; omega
      have h3 : n ≤ 2000 := by omega
      have hr' := hide hr
      clear h2 hr
      go_enter Try.func6, Try.ntmps6
      go_wp2_with fail
      refine (unhide ho).mono ?_
      rintro e w1 ⟨rfl, hb1⟩
      have H1 := hide hb1
      clear hb1 ho
      obtain ⟨X, hX⟩ : ∃ X, X = w1.alloc (.cells #[.slice a l.length cap, .int .i64 (n : Nat)] 43) := ⟨_, rfl⟩
      have hXb : Below w.heap.size w X := by rw [hX]; exact (unhide H1).alloc (unhide H1).size _
      have x0 : X.cell? ⟨w1.heap.size, 0, none⟩ = some (.slice a l.length cap) := by rw [hX]; simp [go_sem]
      have x1 : X.cell? ⟨w1.heap.size, 1, none⟩ = some (.int .i64 (n : Nat)) := by rw [hX]; simp [go_sem]
      have hall := hide (show X.cell? ⟨w1.heap.size, 0, none⟩ = some (.slice a l.length cap) ∧ X.cell? ⟨w1.heap.size, 1, none⟩ = some (.int .i64 (n : Nat)) ∧ Below w.heap.size w X from ⟨x0, x1, hXb⟩)
      have hw1s := (unhide H1).size
      have hX' := hide hX
      have hsh := hide (fun (P : Nat) (W : World) (hB : BkB W P (.slice a l.length cap) (n : Nat)) (hb : Below w.heap.size w W) => by
        have := shotB_any a cap l n P W h3 (unhide hT') (unhide hn') ((unhide hk').below hb) hB.2.2 hB.1 (by rw [unhide hn']; exact hB.2.1)
        rw [unhide hr'] at this
        exact this)
      clear hXb hX
      go_wp2_with fail
      rw [← unhide hX']
      go_region_held3 (fun W => W.cell? ⟨w1.heap.size, 0, none⟩ = some (.slice a l.length cap) ∧ W.cell? ⟨w1.heap.size, 1, none⟩ = some (.int .i64 (n : Nat)) ∧ Below w.heap.size w W)
        (first | (refine keep2b ?_ hb; assumption) | (exact keep2b (unhide hall) (Below.refl _ _).drew))
        (first | (go_at_call 18; refine (bwd_any a l.length cap (n : Nat) _).mono ?_; rintro e w5 ⟨P, rfl, hB, hb⟩; have hB' := hide hB; have hB5 := hide (laterB (unhide hall).2.2 (show Below X.heap.size X w5 from (Below.refl X.heap.size X).drew.trans hb)); clear hB) | (go_at_call 17; refine (unhide hsh P _ (unhide hB') (unhide hB5)).mono ?_; rintro e w6 ⟨g1, c1, rfl, hg1, ho1, hb⟩; have hfin := hide (edR_from ⟨g1, c1, rfl, hg1, ho1, hb⟩ (unhide hB5) : EdR w w6 R (.returned (.tuple #[.slice (some ⟨g1, 0, none⟩) (outL R).length c1, .bool R.isSome]))); clear ho1))
      go_wp2
      exact bodyPost_ret (v := .tuple #[.slice (some ⟨g1, 0, none⟩) (outL R).length c1, .bool R.isSome]) (by simp [results, Try.results6, go_sem]) rfl (unhide hfin)
  · have hr : R = none := by rw [← unhide hR']; exact rev_no (fun h => hT h.1)
    have ho := hide (opened_no a cap l w (unhide hl') hT (unhide hk'))
    clear hT
    go_enter Try.func6, Try.ntmps6
    go_wp2_with fail
    refine (unhide ho).mono ?_
    rintro e w1 ⟨rfl, hb1⟩
    have H1 := hide hb1
    clear hb1 ho
    go_wp2
    exact bodyPost_ret (v := .tuple #[.slice (some ⟨w1.heap.size + 1, 0, none⟩) 0 0, .bool false]) (by simp [results, Try.results6, go_sem]) rfl (by
      have := edR_none (wx := w1.alloc (.cells #[.slice none 0 0, .int .i64 0] 43)) hr ((unhide H1).alloc (unhide H1).size _)
      simpa using this)
end Go.Proofs.Ytkpojifblcdgcaa.Y
