/-
  For every list of tracks and every handle Needs of the program answers as its model does, its answer is memory of its own, and the law's arguments read behind the call as they read before; no conditions.
-/
import Derived.Test.YtfbifffmieimoaaTkC
import Derived.Test.YtfbifffmieimoaaSNd
import Derived.Test.YtfbifffmieimoaaCopyR
namespace Go.Proofs.Ytfbifffmieimoaa.Tk
open Go.RowKit
open Go.Proofs.Ytfbifffmieimoaa
open Go.Proofs.Ytfbifffmieimoaa.Rl (Tks blk_below sneed_any ineed_any shown_len)
set_option linter.unusedVariables false
set_option linter.unusedSimpArgs false

theorem needs_len (ts : List (List Kl)) (h : Int) : (needsOf ts h).length ≤ 15000 := by
  unfold needsOf
  split
  · rename_i x
    have h1 := told_len (shownOf h ts)
    have h2 := shown_len (h := h) x.2.2
    have := x.1
    omega
  · simp
theorem len_tot {ts : List (List Kl)} : ∀ t ∈ ts, t.length ≤ tot ts := by
  induction ts with
  | nil => intro t ht; simp at ht
  | cons u ts ih =>
    intro t ht
    have e : tot (u :: ts) = u.length + tot ts := by simp [tot]
    rcases List.mem_cons.1 ht with h | h
    · rw [h]; omega
    · have := ih t h; omega
theorem own_rng {w w1 : World} {lo hi B g n m cap : Nat} {e : TypeId} {xs : List Value} (ho : w.ownsRow B e m (.slice (some ⟨g, 0, none⟩) n cap) n xs) (hr : Rng lo hi w w1) (hg : g < lo ∨ hi ≤ g) : w1.ownsRow B e m (.slice (some ⟨g, 0, none⟩) n cap) n xs := by
  have hlt := own_lt ho
  obtain ⟨h1, h2⟩ := ho
  refine ⟨h1, ?_⟩
  rcases h2 with h2 | ⟨g', cap', cur, hv, hB, hh, r⟩
  · exact Or.inl h2
  · refine Or.inr ⟨g', cap', cur, hv, hB, ?_, r⟩
    injection hv with e1
    injection e1 with e1
    injection e1 with e1
    subst e1
    rw [hr.block g hlt hg]; exact hh
theorem below_rng {W w w1 : World} {lo hi : Nat} (h : Below W.heap.size W w) (hr : Rng lo hi w w1) (hl : W.heap.size ≤ lo) : Below W.heap.size W w1 :=
  ⟨hr.os.trans h.os, hr.tape.trans h.tape, hr.output.trans h.output, Nat.le_trans h.size hr.size, fun k hk => (hr.block k (Nat.lt_of_lt_of_le hk h.size) (Or.inl (Nat.lt_of_lt_of_le hk hl))).trans (h.block k hk)⟩

set_option maxHeartbeats 6400000 in
theorem lawNd {W : World} (a : Option Addr) (ca : Nat) (ts : List (List Kl)) (hl0 : ts.length ≤ maxLen) (ha : Tks W a ts) (h : Int) :
    Calls Try.prog 5 #[.slice a ts.length ca, .int .i64 h] W fun e w' => e = .returned (.bool true) ∧ Below W.heap.size W w' := by
  have ha' := hide ha
  have hl0' := hl0
  clear ha
  go_enter Try.func5, Try.ntmps5
  go_wp2_with fail
  refine (szt_any a ca ts W hl0 (unhide ha')).mono ?_
  rintro e w0 ⟨r, rfl, hr, hw0⟩
  have hw1 := hw0.symm
  subst hw1
  rcases hr with rfl | ⟨hr0, hl⟩
  · go_wp2
    go_ret
    exact ⟨rfl, Below.refl _ _⟩
  have hr1 : decide (r < 0) = false := by simp; omega
  have hlt : ts.length ≤ 1048576 := by omega
  have hm : Hid (∀ t ∈ ts, t.length ≤ 1048576) := hide (fun t ht => by have := len_tot t ht; omega)
  have hmx : Hid (∀ t ∈ ts, t.length ≤ maxLen) := hide (fun t ht => by have := len_tot t ht; unfold maxLen; omega)
  obtain ⟨L, hL⟩ : ∃ L, L = needsOf ts h := ⟨_, rfl⟩
  have hLl : L.length ≤ 15000 := by rw [hL]; exact needs_len ts h
  have hL' := hide hL
  clear hL hl0
  go_wp2_with fail
  refine (tot_any a ca ts _ hlt (unhide hm) (unhide ha')).mono ?_
  rintro e w0t ⟨B0, rfl, n0, k0⟩
  have oa := hide ((n0.tks (unhide hmx)))
  have H1 := hide k0
  clear k0 n0
  go_wp2_with fail
  refine (sneed_any (some ⟨B0, 0, none⟩) _ ts h _ hl0' (unhide oa)).mono ?_
  rintro e w2t hE
  rw [← unhide hL'] at hE
  obtain ⟨g2, c2, rfl, n2, k2⟩ := hE
  have ow := hide (own_mono n2 (Nat.zero_le _))
  have H3 := hide (laterB (unhide H1) k2)
  have owB : W.heap.size ≤ g2 := by have h8 := own_ge n2; have h9 := (unhide H1).size; omega
  clear k2 n2 oa H1
  have owlt := own_lt (unhide ow)
  go_wp2_with fail
  refine (tot_any a ca ts _ hlt (unhide hm) ((unhide ha').below (unhide H3))).mono ?_
  rintro e w3t ⟨B3, rfl, n3, k3⟩
  have ow := hide (ownsRow_below (unhide ow) k3)
  have ox := hide n3
  have H4 := hide (laterB (unhide H3) k3)
  have hlo : W.heap.size ≤ w2t.heap.size := (unhide H3).size
  clear k3 n3 H3
  generalize w2t.heap.size = lo at *
  have hhi : w3t.heap.size = w3t.heap.size := rfl
  obtain ⟨hi, hhi⟩ : ∃ hi, hi = w3t.heap.size := ⟨_, rfl⟩
  rw [← hhi] at ox
  go_wp2_with fail
  refine (ineed_any (some ⟨B3, 0, none⟩) _ ts h _ hl0' ((unhide ox).tks (unhide hmx))).mono ?_
  rintro e w5t hE
  rw [← unhide hL'] at hE
  obtain ⟨g5, c5, rfl, n5, k5⟩ := hE
  have ow := hide (ownsRow_below (unhide ow) k5)
  have ox := hide ((unhide ox).later k5)
  have og := hide (own_mono n5 (Nat.zero_le _))
  have H6 := hide (laterB (unhide H4) k5)
  have hg5 : hi ≤ g5 := by have h8 := own_ge n5; omega
  have hhi2 : W.heap.size ≤ hi := by have h9 := (unhide H4).size; omega
  have ogB : W.heap.size ≤ g5 := by omega
  have ogow : g5 ≠ g2 := by have h9 := (unhide ox).lt; have h8 := (unhide ox).ge; omega
  clear k5 n5 H4 hhi
  go_wp2_with fail
  refine (Rl.eqks_any _ _ _ _ L _ (by omega) (Rl.kls_own (unhide og)) (Rl.kls_own (unhide ow))).mono ?_
  rintro e w6t ⟨rfl, k6⟩
  have ow := hide (ownsRow_below (unhide ow) k6)
  have ox := hide ((unhide ox).later k6)
  have og := hide (ownsRow_below (unhide og) k6)
  have H7 := hide (laterB (unhide H6) k6)
  clear k6 H6
  go_wp2_with fail
  refine (tot_any a ca ts _ hlt (unhide hm) ((unhide ha').below (unhide H7))).mono ?_
  rintro e w7t ⟨B7, rfl, n7, k7⟩
  have ow := hide (ownsRow_below (unhide ow) k7)
  have ox := hide ((unhide ox).later k7)
  have og := hide (ownsRow_below (unhide og) k7)
  have od := hide (n7.tks (unhide hmx))
  have H8 := hide (laterB (unhide H7) k7)
  clear k7 n7 H7
  go_wp2_with fail
  refine (eqt_any _ _ _ _ ts _ hlt (unhide hm) ((unhide ox).tks (unhide hmx)) (unhide od)).mono ?_
  rintro e w8t ⟨rfl, k8⟩
  have ow := hide (ownsRow_below (unhide ow) k8)
  have ox := hide ((unhide ox).later k8)
  have og := hide (ownsRow_below (unhide og) k8)
  have H9 := hide (laterB (unhide H8) k8)
  clear k8 H8 od
  go_wp2_with fail
  refine (markt_any lo hi B3 _ ts _ hl (unhide ox).tw).mono ?_
  rintro e w11t ⟨r2, rfl, hr2, k11⟩
  have ow := hide (own_rng (unhide ow) k11 (Or.inl owlt))
  have og := hide (own_rng (unhide og) k11 (Or.inr hg5))
  have H12 := hide (below_rng (unhide H9) k11 hlo)
  clear k11 H9 ox
  have t1 : decide (r2 < 0) = false := by simp; omega
  go_wp2_with fail
  refine (Rl.eqks_any _ _ _ _ L _ (by omega) (Rl.kls_own (unhide og)) (Rl.kls_own (unhide ow))).mono ?_
  rintro e w13t ⟨rfl, k13⟩
  have ow := hide (ownsRow_below (unhide ow) k13)
  have og := hide (ownsRow_below (unhide og) k13)
  have H14 := hide (laterB (unhide H12) k13)
  clear k13 H12
  go_wp2_with fail
  refine (Rl.markk_any 0 g5 L.length c5 1 _ _ (by omega) (by omega) (by omega) (unhide og)).mono ?_
  rintro e w14t ⟨rfl, ⟨ys, hy, hmk⟩, k14⟩
  have ow := hide (own_kept (unhide ow) k14 (by omega))
  have og := hide hy
  have hm' := hide hmk
  have H15 := hide (below_grown (unhide H14) k14 ogB)
  clear k14 H14 hy hmk
  go_wp2_with fail
  refine (Rl.heldk_any 0 g5 L.length c5 1 ys _ (by omega) (by omega) (by omega) (unhide og) (unhide hm')).mono ?_
  rintro e wh ⟨rfl, rfl⟩
  have t2 : decide ((1 : Int) + (L.length : Int) * 3 < 0) = false := by simp; omega
  go_wp2_with fail
  refine (tot_any a ca ts _ hlt (unhide hm) ((unhide ha').below (unhide H15))).mono ?_
  rintro e w15t ⟨B15, rfl, n15, k15⟩
  have ow := hide (ownsRow_below (unhide ow) k15)
  have og := hide (ownsRow_below (unhide og) k15)
  have oh := hide (n15.tks (unhide hmx))
  have H16 := hide (laterB (unhide H15) k15)
  clear k15 n15 H15
  go_wp2_with fail
  refine (ineed_any (some ⟨B15, 0, none⟩) _ ts h _ hl0' (unhide oh)).mono ?_
  rintro e w17t hE
  rw [← unhide hL'] at hE
  obtain ⟨g17, c17, rfl, n17, k17⟩ := hE
  have ow := hide (ownsRow_below (unhide ow) k17)
  have og := hide (ownsRow_below (unhide og) k17)
  have oj := hide (own_mono n17 (Nat.zero_le _))
  have H18 := hide (laterB (unhide H16) k17)
  clear k17 n17 H16 oh
  go_wp2_with fail
  refine (Rl.eqks_any _ _ _ _ L _ (by omega) (Rl.kls_own (unhide oj)) (Rl.kls_own (unhide ow))).mono ?_
  rintro e w18t ⟨rfl, k18⟩
  have og := hide (ownsRow_below (unhide og) k18)
  have H19 := hide (laterB (unhide H18) k18)
  clear k18 H18 oj ow
  go_wp2_with fail
  refine (Rl.heldk_any 0 g5 L.length c5 1 ys _ (by omega) (by omega) (by omega) (unhide og) (unhide hm')).mono ?_
  rintro e wh ⟨rfl, rfl⟩
  go_wp2
  go_ret
  exact ⟨rfl, unhide H19⟩

end Go.Proofs.Ytfbifffmieimoaa.Tk
