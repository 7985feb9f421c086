/-
  For every list of tasks and number of workers Farm of the program answers as its model does, in new memory; the list reads behind the call as it read before; no conditions.
-/
import Derived.Test.YtmdkbmnomeampaaFmW
import Derived.Test.YtmdkbmnomeampaaFmS
import Derived.Test.YtmdkbmnomeampaaMt
import Derived.Test.YtmdkbmnomeampaaLawJb
namespace Go.Proofs.Ytmdkbmnomeampaa
open Go.RowKit
set_option linter.unusedVariables false
set_option linter.unusedSimpArgs false

theorem fin_len {ts : List Tv} {W : Nat} (hJ : jobOk ts = true) (hW : 0 < W) (f : Nat) : ∀ s, FInv ts W s → (fin ts f s).length ≤ ts.length := by
  induction f with
  | zero => intro s h; exact h.runs
  | succ f ih =>
    intro s h
    by_cases hr : s.runs.length < ts.length
    · rw [fin_on hr, h.nf]
      exact ih _ ((h.swF hJ W 0 s (by omega)).adv (works h hJ hW hr)).1
    · rw [fin_end hr]; exact h.runs
theorem farm_len (ts : List Tv) (W : Int) : (farmOf ts W).length ≤ 200 := by
  unfold farmOf
  split
  · rename_i h
    have h1 := fin_len h.1 (W := W.toNat) (by omega) 200001 _ (FInv.zero ts W.toNat)
    have := job_short h.1
    omega
  · simp
theorem own_rng {w w1 : World} {B g n m cap lo hi : Nat} {e : TypeId} {xs : List Value} (ho : w.ownsRow B e m (.slice (some ⟨g, 0, none⟩) n cap) n xs) (h : Rng lo hi w w1) (hg : g < lo ∨ hi ≤ g) : w1.ownsRow B e m (.slice (some ⟨g, 0, none⟩) n cap) n xs := by
  have hlt := own_lt ho
  obtain ⟨h1, h2⟩ := ho
  refine ⟨h1, ?_⟩
  rcases h2 with h2 | ⟨g', cap', cur, hv, hB, hh, r⟩
  · exact Or.inl h2
  · refine Or.inr ⟨g', cap', cur, hv, hB, ?_, r⟩
    injection hv with e1
    injection e1 with e1
    injection e1 with e1
    subst e1
    rw [h.block g hlt hg]; exact hh
theorem below_rng {W w w1 : World} {lo hi : Nat} (h : Below W.heap.size W w) (k : Rng lo hi w w1) (hl : W.heap.size ≤ lo) : Below W.heap.size W w1 :=
  ⟨k.os.trans h.os, k.tape.trans h.tape, k.output.trans h.output, Nat.le_trans h.size k.size, fun i hi' => (k.block i (Nat.lt_of_lt_of_le hi' h.size) (.inl (by omega))).trans (h.block i hi')⟩

set_option maxRecDepth 100000 in
set_option maxHeartbeats 3200000 in
theorem lawFm {W : World} (a : Option Addr) (cap : Nat) (l : List Tv) (hl : l.length ≤ maxLen) (hr : Tks W a l) (V : Int) :
    Calls Try.prog 6 #[.slice a l.length cap, .int .i64 V] W fun e w' => e = .returned (.bool true) ∧ Below W.heap.size W w' := by
  have hr' := hide hr
  have hl' := hide hl
  have hx' := hide (tks_max hr)
  have cz := hide (szts_any a cap l W hl hr 1048576 (by omega) (by omega))
  clear hr hl
  go_enter Try.func6, Try.ntmps6
  go_wp2_with fail
  refine (unhide cz).mono ?_
  rintro e w1 ⟨r, rfl, h1, k1⟩
  rcases h1 with rfl | ⟨p0, p2⟩
  · go_wp2
    go_ret
    exact ⟨rfl, k1⟩
  have gr : decide (r < 0) = false := decide_eq_false (by omega)
  have p1 : l.length ≤ 1048576 := by omega
  have p3 := hide (show l.length + tot l ≤ 1048576 by omega)
  have pm := hide (show ∀ t ∈ l, t.2.2.1.length ≤ 1048576 from fun t ht => by have := tot_mem ht; omega)
  have B1 := hide k1
  clear p2 k1 cz
  go_wp2_with fail
  refine (tots_any a cap l w1 p1 (unhide pm) ((unhide hr').below (unhide B1))).mono ?_
  rintro e w2 ⟨g2, rfl, o2, k2⟩
  have B2 := hide (laterB (unhide B1) k2)
  have O2 := hide (o2.tks (unhide hx'))
  clear k2 o2 B1
  go_wp2_with fail
  refine (sfarm_any _ _ l V w2 (unhide hl') (unhide O2)).mono ?_
  rintro e w3 ⟨gS, cS, rfl, qS, oS, k3⟩
  obtain ⟨L, hL⟩ : ∃ L, farmOf l V = L := ⟨_, rfl⟩
  have hLn : L.length ≤ 200 := by rw [← hL]; exact farm_len l V
  rw [hL] at oS
  rw [hL]
  have hL' := hide hL
  have B3 := hide (laterB (unhide B2) k3)
  have OS := hide oS
  have hgS := hide (own_lt oS)
  clear k3 B2 O2 oS hL
  go_wp2_with fail
  refine (tots_any a cap l w3 p1 (unhide pm) ((unhide hr').below (unhide B3))).mono ?_
  rintro e w4 ⟨g4, rfl, o4, k4⟩
  have B4 := hide (laterB (unhide B3) k4)
  have T4 := hide o4
  have OS := hide (ownsRow_below (unhide OS) k4)
  have hs34 := hide k4.size
  clear k4 o4
  go_wp2_with fail
  refine (ifarm_any _ _ l V w4 (unhide hl') ((unhide T4).tks (unhide hx'))).mono ?_
  rintro e w5 ⟨gI, cI, rfl, qI, oI, k5⟩
  rw [unhide hL'] at oI
  rw [unhide hL']
  have B5 := hide (laterB (unhide B4) k5)
  have T5 := hide ((unhide T4).later k5)
  have OS := hide (ownsRow_below (unhide OS) k5)
  have OI := hide oI
  have hqI := hide qI
  clear k5 B4 oI qI
  go_wp2_with fail
  refine (eqks_any _ _ _ _ L w5 (by omega) (kls_own (unhide OI)) (kls_own (unhide OS))).mono ?_
  rintro e w6 ⟨rfl, k6⟩
  have B6 := hide (laterB (unhide B5) k6)
  have T6 := hide ((unhide T5).later k6)
  have OS := hide (ownsRow_below (unhide OS) k6)
  have OI := hide (ownsRow_below (unhide OI) k6)
  clear k6 B5 T5
  go_wp2_with fail
  refine (tots_any a cap l w6 p1 (unhide pm) ((unhide hr').below (unhide B6))).mono ?_
  rintro e w7 ⟨g7, rfl, o7, k7⟩
  have B7 := hide (laterB (unhide B6) k7)
  have T7 := hide ((unhide T6).later k7)
  have O7 := hide (o7.tks (unhide hx'))
  have OS := hide (ownsRow_below (unhide OS) k7)
  have OI := hide (ownsRow_below (unhide OI) k7)
  clear k7 B6 T6 o7
  go_wp2_with fail
  refine (eqts_any _ _ _ _ l w7 p1 (unhide pm) ((unhide T7).tks (unhide hx')) (unhide O7)).mono ?_
  rintro e w8 ⟨rfl, k8⟩
  have B8 := hide (laterB (unhide B7) k8)
  have T8 := hide ((unhide T7).later k8)
  have OS := hide (ownsRow_below (unhide OS) k8)
  have OI := hide (ownsRow_below (unhide OI) k8)
  clear k8 B7 T7 O7
  go_wp2_with fail
  refine (markts_any w3.heap.size w4.heap.size g4 _ l w8 (unhide p3) (unhide T8).tw).mono ?_
  rintro e w9 ⟨r9, rfl, r90, k9⟩
  have g9 : decide (r9 < 0) = false := decide_eq_false (by omega)
  have B9 := hide (below_rng (unhide B8) k9 (unhide B3).size)
  have OS := hide (own_rng (unhide OS) k9 (.inl (unhide hgS)))
  have OI := hide (own_rng (unhide OI) k9 (.inr (unhide hqI)))
  clear k9 B8 T8 T4
  go_wp2_with fail
  refine (eqks_any _ _ _ _ L w9 (by omega) (kls_own (unhide OI)) (kls_own (unhide OS))).mono ?_
  rintro e wA ⟨rfl, kA⟩
  have BA := hide (laterB (unhide B9) kA)
  have OS := hide (ownsRow_below (unhide OS) kA)
  have OI := hide (ownsRow_below (unhide OI) kA)
  have hneS : Hid (gS ≠ gI) := hide (by have h5 := unhide hgS; have h6 := unhide hqI; have h7 := unhide hs34; omega)
  have hWI := hide (show W.heap.size ≤ gI by have h5 := (unhide B3).size; have h6 := unhide hqI; have h7 := unhide hs34; omega)
  clear kA B9
  go_wp2_with fail
  refine (markk_any _ gI L.length cI 1 _ wA (by omega) (by omega) (by omega) (unhide OI)).mono ?_
  rintro e wB ⟨rfl, ⟨ys, hy, hm⟩, hg⟩
  have BB := hide (below_grown (unhide BA) hg (unhide hWI))
  have OS := hide (own_kept (unhide OS) hg (unhide hneS))
  have hy' := hide hy
  have hm' := hide hm
  clear hy hm hg BA OI
  obtain ⟨N, hN⟩ : ∃ N : Int, (1 : Int) + L.length * 4 = N := ⟨_, rfl⟩
  have hN0 : 1 ≤ N := by omega
  have hN' := hide hN
  rw [hN]
  clear hN
  have gN : decide (N < 0) = false := decide_eq_false (by omega)
  have gNN : (N != N) = false := by simp
  have cH : Hid (∀ w', Below wB.heap.size wB w' → Calls Try.prog 30 #[.slice (some ⟨gI, 0, none⟩) L.length cI, .int .i64 1] w' fun e w'' => e = .returned (.int .i64 N) ∧ w'' = w') := hide (fun w' hb => by
    have h5 := heldk_any _ gI L.length cI 1 ys w' (by omega) (by omega) (by omega) (ownsRow_below (unhide hy') hb) (unhide hm')
    rw [unhide hN'] at h5
    exact h5)
  go_wp2_with fail
  refine (unhide cH wB (Below.refl _ _)).mono ?_
  rintro e wC ⟨rfl, rfl⟩
  go_wp2_with fail
  refine (tots_any a cap l wC p1 (unhide pm) ((unhide hr').below (unhide BB))).mono ?_
  rintro e wD ⟨gD, rfl, oD, kD⟩
  have BD := hide (laterB (unhide BB) kD)
  have OD := hide (oD.tks (unhide hx'))
  have OS := hide (ownsRow_below (unhide OS) kD)
  have BC := hide kD
  clear kD oD BB
  go_wp2_with fail
  refine (ifarm_any _ _ l V wD (unhide hl') (unhide OD)).mono ?_
  rintro e wE ⟨gH, cI2, rfl, qH, oH, kE⟩
  rw [unhide hL'] at oH
  rw [unhide hL']
  have BE := hide (laterB (unhide BD) kE)
  have OH := hide (kls_own oH)
  have OS := hide (ownsRow_below (unhide OS) kE)
  have BC := hide (laterB (unhide BC) kE)
  clear kE oH qH BD OD
  go_wp2_with fail
  refine (eqks_any _ _ _ _ L wE (by omega) (unhide OH) (kls_own (unhide OS))).mono ?_
  rintro e wF ⟨rfl, kF⟩
  have BF := hide (laterB (unhide BE) kF)
  have BC := hide (laterB (unhide BC) kF)
  clear kF BE OH OS
  go_wp2_with fail
  refine (unhide cH wF (unhide BC)).mono ?_
  rintro e wG ⟨rfl, rfl⟩
  go_wp2
  go_ret
  exact ⟨rfl, unhide BF⟩

end Go.Proofs.Ytmdkbmnomeampaa
