/-
  Contracts of the program's Retime and Reverse; answers are new memory, nothing that was there is written.
-/
import Derived.Test.YtbmkbhondlecaaaSht
namespace Go.Proofs.Ytbmkbhondlecaaa.Y
open Go.RowKit
open Go.Proofs.Ytbmkbhondlecaaa
set_option linter.unusedVariables false
set_option linter.unusedSimpArgs false

theorem ret_asTr {l : List Ky} {s : Int} {n : Nat} (hK : KsOk l) (hs : InR s 1 500) (hn : InR (n : Int) 1 2000) : retOf l s (n : Int) = asTr (retL l s n) := by
  rw [ret_yes ⟨hK, hs, hn⟩, Int.toNat_natCast, edit_ret hK hs]; rfl
theorem rev_asTr {l : List Kl} {n : Nat} (hT : TOk l) (hc : clen l = n) (hn : n ≤ 2000) : revOf l = asTr (revP l n) := by
  rw [rev_prog hT (by omega), hc, Int.toNat_natCast]; rfl
/-- the boxes: the keys, the source -/
def RtB (W : World) (B : Nat) (v : Value) (s : Int) : Prop := W.cell? ⟨B, 0, none⟩ = some v ∧ W.cell? ⟨B + 1, 0, none⟩ = some (.int .i64 s) ∧ B + 1 < W.heap.size
theorem RtB.later {W W' : World} {B : Nat} {v : Value} {s : Int} (h : RtB W B v s) (hb : Below W.heap.size W W') : RtB W' B v s :=
  ⟨cell_later hb h.1, cell_later hb h.2.1, Nat.lt_of_lt_of_le h.2.2 hb.size⟩
theorem rtb_start (w : World) (a : Option Addr) (n cap : Nat) (s : Int) : RtB ((w.alloc (.cells #[.slice a n cap] 24)).alloc (.cells #[.int .i64 s] 2)) w.heap.size (.slice a n cap) s := by
  refine ⟨?_, ?_, ?_⟩ <;> simp [go_sem]

set_option maxHeartbeats 3200000 in
theorem iret_any (a : Option Addr) (cap : Nat) (l : List Ky) (s n : Int) (R : Option (List Kl)) (w : World) (hl : l.length ≤ maxLen) (hk : Kys w a l) (hR : retOf l s n = R) :
    Calls Try.prog 16 #[.slice a l.length cap, .int .i64 s, .int .i64 n] w fun e w' => EdR w w' R e := by
  have hk' := hide hk
  have hl' := hide hl
  have hR' := hide hR
  clear hk hl hR
  have hs0 := hide (rtb_start w a l.length cap s)
  have hb0 := hide (((Below.refl w.heap.size w).alloc (Nat.le_refl _) (.cells #[.slice a l.length cap] 24)).alloc (by simp) (.cells #[.int .i64 s] 2))
  by_cases hK : KsOk l
  · have hK' := hide hK
    clear hK
    by_cases hS : InR s 1 500
    · have hd : Hid ((decide (1 ≤ s) && decide (s ≤ 500)) = true) := hide (by have h1 := hS.1; have h2 := hS.2; simp; omega)
      have hS' := hide hS
      clear hS
      by_cases hn1 : n < 1
      · have hr : R = none := by rw [← unhide hR']; exact ret_no (fun h => by have := h.2.2.1; omega)
        have hn1' : decide (n < 1) = true := by simpa using hn1
        clear hn1
        go_enter Try.func16, Try.ntmps16
        go_wp2_with fail
        refine (iks_any a cap l true _ (unhide hl') ((unhide hk').below (unhide hb0)) ⟨fun _ => unhide hK', fun _ => rfl⟩).mono ?_
        rintro e w1 ⟨rfl, hb1⟩
        have hs1 := hide ((unhide hs0).later hb1)
        have H1 := hide (laterB (unhide hb0) hb1)
        clear hb1 hs0 hb0
        obtain ⟨c0, c1, hB⟩ := unhide hs1
        go_wp2_with fail
        refine (isrc_any s true _ (unhide hd)).mono ?_
        rintro e w2 ⟨rfl, hw0⟩
        have hw1 := hw0.symm
        subst hw1
        go_wp2
        exact bodyPost_ret (v := .tuple #[.slice (some ⟨w1.heap.size, 0, none⟩) 0 0, .bool false]) (by simp [results, Try.results16, go_sem]) rfl (edR_none hr (unhide H1))
      by_cases hn2 : 2000 < n
      · have hr : R = none := by rw [← unhide hR']; exact ret_no (fun h => by have := h.2.2.2; omega)
        have hn1' : decide (n < 1) = false := by simpa using hn1
        have hn2' : decide (2000 < n) = true := by simpa using hn2
        clear hn1 hn2
        go_enter Try.func16, Try.ntmps16
        go_wp2_with fail
        refine (iks_any a cap l true _ (unhide hl') ((unhide hk').below (unhide hb0)) ⟨fun _ => unhide hK', fun _ => rfl⟩).mono ?_
        rintro e w1 ⟨rfl, hb1⟩
        have hs1 := hide ((unhide hs0).later hb1)
        have H1 := hide (laterB (unhide hb0) hb1)
        clear hb1 hs0 hb0
        obtain ⟨c0, c1, hB⟩ := unhide hs1
        go_wp2_with fail
        refine (isrc_any s true _ (unhide hd)).mono ?_
        rintro e w2 ⟨rfl, hw0⟩
        have hw1 := hw0.symm
        subst hw1
        go_wp2
        exact bodyPost_ret (v := .tuple #[.slice (some ⟨w1.heap.size, 0, none⟩) 0 0, .bool false]) (by simp [results, Try.results16, go_sem]) rfl (edR_none hr (unhide H1))
      obtain ⟨m, rfl⟩ : ∃ m : Nat, n = m := ⟨n.toNat, by omega⟩
      have hm1 : 1 ≤ m := by omega
      have hm2 : m ≤ 2000 := by omega
      have hr : asTr (retL l s m) = R := by rw [← unhide hR', ret_asTr (unhide hK') (unhide hS') ⟨by omega, by omega⟩]
      have hn1' : decide ((m : Int) < 1) = false := by simpa using hn1
      have hn2' : decide (2000 < (m : Int)) = false := by simpa using hn2
      have hr' := hide hr
      clear hn1 hn2 hr
      go_enter Try.func16, Try.ntmps16
      go_wp2_with fail
      refine (iks_any a cap l true _ (unhide hl') ((unhide hk').below (unhide hb0)) ⟨fun _ => unhide hK', fun _ => rfl⟩).mono ?_
      rintro e w1 ⟨rfl, hb1⟩
      have hs1 := hide ((unhide hs0).later hb1)
      have H1 := hide (laterB (unhide hb0) hb1)
      clear hb1 hs0 hb0
      obtain ⟨c0, c1, hB⟩ := unhide hs1
      have hsh := shotR_any a cap l s m (w.heap.size + 1) w.heap.size w1 hm2 (unhide hK') (unhide hS') ((unhide hk').below (unhide H1)) hB (by omega) c1 c0
      rw [unhide hr'] at hsh
      have hsh' := hide hsh
      clear hsh
      go_wp2_with fail
      refine (isrc_any s true _ (unhide hd)).mono ?_
      rintro e w2 ⟨rfl, hw0⟩
      have hw1 := hw0.symm
      subst hw1
      go_wp2_with fail
      refine (unhide hsh').mono ?_
      rintro e w3 ⟨g1, c1', rfl, hg1, ho1, hb1⟩
      have hfin := hide (edR_from ⟨g1, c1', rfl, hg1, ho1, hb1⟩ (unhide H1) : EdR w w3 R (.returned (.tuple #[.slice (some ⟨g1, 0, none⟩) (outL R).length c1', .bool R.isSome])))
      clear ho1 hb1 hsh'
      go_wp2
      exact bodyPost_ret (v := .tuple #[.slice (some ⟨g1, 0, none⟩) (outL R).length c1', .bool R.isSome]) (by simp [results, Try.results16, go_sem]) rfl (unhide hfin)
    · have hd : Hid ((decide (1 ≤ s) && decide (s ≤ 500)) = false) := hide (by simp; unfold InR at hS; omega)
      have hr : R = none := by rw [← unhide hR']; exact ret_no (fun h => hS h.2.1)
      clear hS
      go_enter Try.func16, Try.ntmps16
      go_wp2_with fail
      refine (iks_any a cap l true _ (unhide hl') ((unhide hk').below (unhide hb0)) ⟨fun _ => unhide hK', fun _ => rfl⟩).mono ?_
      rintro e w1 ⟨rfl, hb1⟩
      have hs1 := hide ((unhide hs0).later hb1)
      have H1 := hide (laterB (unhide hb0) hb1)
      clear hb1 hs0 hb0
      obtain ⟨c0, c1, hB⟩ := unhide hs1
      go_wp2_with fail
      refine (isrc_any s false _ (unhide hd)).mono ?_
      rintro e w2 ⟨rfl, hw0⟩
      have hw1 := hw0.symm
      subst hw1
      go_wp2
      exact bodyPost_ret (v := .tuple #[.slice (some ⟨w1.heap.size, 0, none⟩) 0 0, .bool false]) (by simp [results, Try.results16, go_sem]) rfl (edR_none hr (unhide H1))
  · have hr : R = none := by rw [← unhide hR']; exact ret_no (fun h => hK h.1)
    have hK' := hide hK
    clear hK
    go_enter Try.func16, Try.ntmps16
    go_wp2_with fail
    refine (iks_any a cap l false _ (unhide hl') ((unhide hk').below (unhide hb0)) ⟨(fun h => by cases h), fun h => absurd h (unhide hK')⟩).mono ?_
    rintro e w1 ⟨rfl, hb1⟩
    have H1 := hide (laterB (unhide hb0) hb1)
    clear hb1 hs0 hb0
    go_wp2
    exact bodyPost_ret (v := .tuple #[.slice (some ⟨w1.heap.size, 0, none⟩) 0 0, .bool false]) (by simp [results, Try.results16, go_sem]) rfl (edR_none hr (unhide H1))

/-- a track in a box of its own -/
def BkB (W : World) (P : Nat) (v : Value) (n : Int) : Prop := W.cell? ⟨P, 0, none⟩ = some v ∧ W.cell? ⟨P, 1, none⟩ = some (.int .i64 n) ∧ P < W.heap.size
theorem BkB.later {W W' : World} {B : Nat} {v : Value} {s : Int} (h : BkB W B v s) (hb : Below W.heap.size W W') : BkB W' B v s :=
  ⟨cell_later hb h.1, cell_later hb h.2.1, Nat.lt_of_lt_of_le h.2.2 hb.size⟩
set_option maxHeartbeats 400000 in
theorem bwd_any (a : Option Addr) (k cap : Nat) (n : Int) (w : World) :
    Calls Try.prog 56 #[.agg #[.slice a k cap, .int .i64 n]] w fun e w' => ∃ P, e = .returned (.func (.func 68) #[] #[.pointer (some ⟨P, 0, none⟩)]) ∧ BkB w' P (.slice a k cap) n ∧ Below w.heap.size w w' := by
  have hb := hide (show BkB (w.alloc (.cells #[.slice a k cap, .int .i64 n] 74)) w.heap.size (.slice a k cap) n from ⟨by simp [go_sem], by simp [go_sem], by simp⟩)
  go_enter Try.func56, Try.ntmps56
  go_wp2
  go_ret
  exact ⟨w.heap.size, rfl, unhide hb, (Below.refl _ _).alloc (Nat.le_refl _) _⟩

set_option maxHeartbeats 3200000 in
theorem irev_any (a : Option Addr) (cap : Nat) (l : List Kl) (R : Option (List Kl)) (w : World) (hl : l.length ≤ maxLen) (hk : Kls w a l) (hR : revOf l = R) :
    Calls Try.prog 32 #[.slice a l.length cap] w fun e w' => EdR w w' R e := by
  have hk' := hide hk
  have hl' := hide hl
  have hR' := hide hR
  clear hk hl hR
  by_cases hT : TOk l
  · have hT' := hide hT
    have hc9 := hT.2.2
    have hc0 := clen_nonneg hT.2.1
    have ho := hide (opened_ok a cap l w hT (unhide hk'))
    obtain ⟨n, hn⟩ : ∃ n : Nat, clen l = n := ⟨(clen l).toNat, by omega⟩
    rw [hn] at ho
    have hn' := hide hn
    rw [hn] at hc9
    clear hT hc0 hn
    by_cases h2 : 2000 < n
    · have hr : R = none := by rw [← unhide hR']; exact rev_no (fun h => by have := h.2; rw [unhide hn'] at this; omega)
      have h2' : decide ((2000 : Int) < (n : Int)) = true := by simp; omega
      go_enter Try.func32, Try.ntmps32
      go_wp2_with fail
      refine (unhide ho).mono ?_
      rintro e w1 ⟨rfl, hb1⟩
      have H1 := hide hb1
      clear hb1 ho
      go_wp2
      exact bodyPost_ret (v := .tuple #[.slice (some ⟨w1.heap.size + 1, 0, none⟩) 0 0, .bool false]) (by simp [results, Try.results32, go_sem]) rfl (by
        have := edR_none (wx := w1.alloc (.cells #[.slice a l.length cap, .int .i64 (n : Nat)] 74)) hr ((unhide H1).alloc (unhide H1).size _)
        simpa using this)
    · have hr : asTr (revP l n) = R := by rw [← unhide hR', rev_asTr (unhide hT') (unhide hn') (by omega)]
      have h2' : decide ((2000 : Int) < (n : Int)) = false := by simp; omega
      have h3 : n ≤ 2000 := by omega
      have hr' := hide hr
      clear h2 hr
      go_enter Try.func32, Try.ntmps32
      go_wp2_with fail
      refine (unhide ho).mono ?_
      rintro e w1 ⟨rfl, hb1⟩
      have H1 := hide hb1
      clear hb1 ho
      obtain ⟨X, hX⟩ : ∃ X, X = w1.alloc (.cells #[.slice a l.length cap, .int .i64 (n : Nat)] 74) := ⟨_, rfl⟩
      have hXb : Below w.heap.size w X := by rw [hX]; exact (unhide H1).alloc (unhide H1).size _
      have x0 : X.cell? ⟨w1.heap.size, 0, none⟩ = some (.slice a l.length cap) := by rw [hX]; simp [go_sem]
      have x1 : X.cell? ⟨w1.heap.size, 1, none⟩ = some (.int .i64 (n : Nat)) := by rw [hX]; simp [go_sem]
      have hall := hide (show X.cell? ⟨w1.heap.size, 0, none⟩ = some (.slice a l.length cap) ∧ X.cell? ⟨w1.heap.size, 1, none⟩ = some (.int .i64 (n : Nat)) ∧ Below w.heap.size w X from ⟨x0, x1, hXb⟩)
      have hw1s := (unhide H1).size
      have hX' := hide hX
      have hsh := hide (fun (P : Nat) (W : World) (hB : BkB W P (.slice a l.length cap) (n : Nat)) (hb : Below w.heap.size w W) => by
        have := shotB_any a cap l n P W h3 (unhide hT') (unhide hn') ((unhide hk').below hb) hB.2.2 hB.1 (by rw [unhide hn']; exact hB.2.1)
        rw [unhide hr'] at this
        exact this)
      clear hXb hX
      go_wp2_with fail
      rw [← unhide hX']
      go_region_held3 (fun W => W.cell? ⟨w1.heap.size, 0, none⟩ = some (.slice a l.length cap) ∧ W.cell? ⟨w1.heap.size, 1, none⟩ = some (.int .i64 (n : Nat)) ∧ Below w.heap.size w W)
        (first | (refine keep2b ?_ hb; assumption) | (exact keep2b (unhide hall) (Below.refl _ _).drew))
        (first | (go_at_call 56; refine (bwd_any a l.length cap (n : Nat) _).mono ?_; rintro e w5 ⟨P, rfl, hB, hb⟩; have hB' := hide hB; have hB5 := hide (laterB (unhide hall).2.2 (show Below X.heap.size X w5 from (Below.refl X.heap.size X).drew.trans hb)); clear hB) | (go_at_call 42; refine (unhide hsh P _ (unhide hB') (unhide hB5)).mono ?_; rintro e w6 ⟨g1, c1, rfl, hg1, ho1, hb⟩; have hfin := hide (edR_from ⟨g1, c1, rfl, hg1, ho1, hb⟩ (unhide hB5) : EdR w w6 R (.returned (.tuple #[.slice (some ⟨g1, 0, none⟩) (outL R).length c1, .bool R.isSome]))); clear ho1))
      go_wp2
      exact bodyPost_ret (v := .tuple #[.slice (some ⟨g1, 0, none⟩) (outL R).length c1, .bool R.isSome]) (by simp [results, Try.results32, go_sem]) rfl (unhide hfin)
  · have hr : R = none := by rw [← unhide hR']; exact rev_no (fun h => hT h.1)
    have ho := hide (opened_no a cap l w (unhide hl') hT (unhide hk'))
    clear hT
    go_enter Try.func32, Try.ntmps32
    go_wp2_with fail
    refine (unhide ho).mono ?_
    rintro e w1 ⟨rfl, hb1⟩
    have H1 := hide hb1
    clear hb1 ho
    go_wp2
    exact bodyPost_ret (v := .tuple #[.slice (some ⟨w1.heap.size + 1, 0, none⟩) 0 0, .bool false]) (by simp [results, Try.results32, go_sem]) rfl (by
      have := edR_none (wx := w1.alloc (.cells #[.slice none 0 0, .int .i64 0] 74)) hr ((unhide H1).alloc (unhide H1).size _)
      simpa using this)
end Go.Proofs.Ytbmkbhondlecaaa.Y
