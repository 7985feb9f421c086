/-
  For every list of bytes: the bytes that are drawn of it, when they are read without a fault, are those that the film is shown as; else a fault stands inside them, and what is ahead of it is saved; no condition.
-/
import Derived.Test.YtfdbnlmfnhhcbaaDrBy
import Derived.Test.YtfdbnlmfnhhcbaaOneP
import Derived.Test.YtfdbnlmfnhhcbaaSame
import Derived.Test.YtfdbnlmfnhhcbaaSTop
import Derived.Test.YtfdbnlmfnhhcbaaSRd2
import Derived.Laws.StructEq
namespace Go.Proofs.Ytfdbnlmfnhhcbaa
open Go.RowKit
set_option linter.unusedVariables false
set_option linter.unusedSimpArgs false

set_option maxHeartbeats 400000 in
theorem big_any (a : Option Addr) (len cap : Nat) (v : Bool) (w : World) (hv : decide ((4096 : Int) < len) = v) :
    Calls Try.prog 4 #[.slice a len cap] w fun e w' => e = .returned (.bool v) ∧ w' = w := by
  subst hv
  go_enter Try.func4, Try.ntmps4
  go_wp2
  go_ret
  exact ⟨rfl, rfl⟩
theorem nz_at {L : List (Bx × (Option Addr × Nat))} {l : List Bx} (h : Nz L) (e : L.map (·.1) = l) : ∀ i, i < l.length → (At2 L i).1 = none → (At2 L i).2 = 0 := by
  intro i hi
  rw [← e, List.length_map] at hi
  unfold At2
  rw [List.getElem?_eq_getElem hi]
  exact h _ (List.getElem_mem hi)
theorem ok_small {l : List Bx} (h : ok l = true) : Small 1048576 l ∧ l.length ≤ 200 := by
  obtain ⟨h1, h2, h3⟩ := ok_film h
  refine ⟨fun x hx => ?_, h1⟩
  have hk := strOk_k4 _ _ h2.1 x hx
  have hz : ∀ m : List Bx, x ∈ m → x.z.length ≤ total m := by
    intro m
    induction m with
    | nil => intro h; simp at h
    | cons y t ih =>
      intro h
      rw [total_cons]
      rcases List.mem_cons.1 h with rfl | h
      · omega
      · have := ih h; omega
  have := hz l hx
  omega
theorem carryB {W w : World} {a : Option Addr} {A : Nat → Option Addr × Nat} {l : List Bx} (h : Bxs false 0 W.heap.size W a A l) (hb : Below W.heap.size W w) : Bxs false 0 w.heap.size w a A l := (h.below hb (Nat.le_refl _)).mono (Nat.le_refl _) hb.size
/-- the bytes, and what was there -/
structure ZS (W wr : World) (G n c : Nat) (zs : List Int) : Prop where
  o : wr.ownsRow 0 5 1 (.slice (some ⟨G, 0, none⟩) n c) n (zs.map u8)
  b : Below W.heap.size W wr
theorem ZS.later {W wr w1 : World} {G n c : Nat} {zs : List Int} (h : ZS W wr G n c zs) (hb : Below wr.heap.size wr w1) : ZS W w1 G n c zs :=
  ⟨ownsRow_below h.o hb, h.b.trans (hb.mono h.b.size)⟩
theorem ZS.row {W wr : World} {G n c : Nat} {zs : List Int} (h : ZS W wr G n c zs) (hz : ∀ z ∈ zs, 0 ≤ z ∧ z ≤ 255) : Row false 0 wr.heap.size wr (some ⟨G, 0, none⟩) zs :=
  (row_of_own h.o hz).read.mono (Nat.zero_le _) ((h.o.lt G rfl).2)
theorem ZS.cap {W wr : World} {G n c : Nat} {zs : List Int} (h : ZS W wr G n c zs) : n ≤ c ∧ c ≤ 9223372036854775807 := by
  rcases h.o.2 with ⟨e, _⟩ | ⟨g2, cap2, cur2, e, _, _, hnc, hcm, _⟩
  · cases e
  · injection e with e1 e2 e3
    subst e3
    unfold maxLen at hcm
    exact ⟨hnc, by omega⟩
theorem cell_lat {w w1 : World} {p : Addr} {v : Value} (hb : Below w.heap.size w w1) (h : w.cell? p = some v) : w1.cell? p = some v := by
  rw [World.cell?_of_block (hb.block _ (World.block_lt_of_cell? _ _ h))]; exact h

set_option maxRecDepth 10000 in
set_option maxHeartbeats 6400000 in
theorem lawB1 {W : World} (a : Option Addr) (len cap : Nat) (hr : RdB W W.heap.size a len) :
    Calls Try.prog 3 #[.slice a len cap] W fun e w' => e = .returned (.bool true) ∧ Below W.heap.size W w' := by
  have hr' := hide hr
  clear hr
  by_cases hbig : (4096 : Int) < len
  · have hb' := hide (decide_eq_true hbig)
    clear hbig
    go_enter Try.func3, Try.ntmps3
    go_wp2_with fail
    refine (big_any a len cap true _ (unhide hb')).mono ?_
    rintro e w0 ⟨rfl, hw0⟩
    have hw1 := hw0.symm
    subst hw1
    go_wp2
    go_ret
    exact ⟨rfl, Below.refl _ _⟩
  have hb' := hide (decide_eq_false hbig)
  have hl : len ≤ 4096 := by omega
  clear hbig
  go_enter Try.func3, Try.ntmps3
  go_wp2_with fail
  refine (big_any a len cap false _ (unhide hb')).mono ?_
  rintro e w0 ⟨rfl, hw0⟩
  have hw1 := hw0.symm
  subst hw1
  clear hb'
  go_wp2_with fail
  refine (drd_any a len cap _ hl (unhide hr')).mono ?_
  rintro e w1 ⟨G, n, c, zs, rfl, hn, hzl, hzb, own1, b1⟩
  have S1 := hide (show ZS W w1 G n c zs from ⟨own_mono own1 (Nat.zero_le _), b1⟩)
  have hzb' := hide hzb
  obtain ⟨hcap1, hcap2⟩ := (unhide S1).cap
  obtain ⟨hok, hf0, hf1⟩ := one_facts zs hzb
  have hsr := hide (fun (w : World) (h : Row false 0 w.heap.size w (some ⟨G, 0, none⟩) zs) => sread_any sp_zero (some ⟨G, 0, none⟩) c zs w (by omega) (by omega) hcap2 h)
  have hsv := hide (fun (w : World) (h : Row false 0 w.heap.size w (some ⟨G, 0, none⟩) zs) => isave_any (some ⟨G, 0, none⟩) c zs w (by omega) (by omega) hcap2 h)
  have hss := hide (fun (w : World) (h : Row false 0 w.heap.size w (some ⟨G, 0, none⟩) zs) => ssave_any sp_zero (some ⟨G, 0, none⟩) c zs w (by omega) (by omega) hcap2 h)
  have hir := hide (fun (w : World) (h : Row false 0 w.heap.size w (some ⟨G, 0, none⟩) zs) => iread_any (some ⟨G, 0, none⟩) c zs w (by omega) (by omega) hcap2 h)
  rw [hzl] at hsr hsv hss hir
  have hcv := hide (fun (w : World) (h : Row false 0 w.heap.size w (some ⟨G, 0, none⟩) zs) => cv_row h c)
  rw [hzl] at hcv hf1
  generalize (rdTop zs).2.1 = cd at hf0 hf1 hsr hir
  generalize (rdTop zs).2.2 = ps at hf1 hsr hir
  generalize (rdTop zs).1 = sl at hok hf0 hsv hss
  generalize rdBoxes zs = rl at hf0 hf1 hsr hir
  obtain ⟨hsm, hsl⟩ := ok_small hok
  have hsm' := hide hsm
  have hok' := hide hok
  have hf0' := hide hf0
  have hf1' := hide hf1
  clear own1 b1 hr' hzb hsm hok hf0 hf1
  go_wp2_with fail
  refine (unhide hir _ ((unhide S1).row (unhide hzb'))).mono ?_
  rintro e w2 ⟨v2, L2, rfl, own2, ⟨hL2, hN2⟩, b2⟩
  obtain ⟨a2, c2, rfl, hc21, hc22, M2⟩ := own_out own2 hL2
  have hN2' := hide (nz_at hN2 hL2)
  obtain ⟨X2, hX2⟩ : ∃ X2, X2 = w2.alloc (.cells #[.int .i64 cd, .int .i64 ps] 27) := ⟨_, rfl⟩
  have Ba : Below w2.heap.size w2 X2 := by rw [hX2]; exact (Below.refl _ _).alloc (Nat.le_refl _) _
  have d0 : X2.cell? ⟨w2.heap.size, 0, none⟩ = some (.int .i64 cd) := by rw [hX2]; simp [go_sem]
  have d1 : X2.cell? ⟨w2.heap.size, 1, none⟩ = some (.int .i64 ps) := by rw [hX2]; simp [go_sem]
  have S2 := hide (((unhide S1).later b2).later Ba)
  have M2' := hide (carryB M2 Ba)
  have hX2' := hide hX2
  clear own2 hL2 hN2 b2 M2 Ba hX2 S1 hir
  go_wp2_with fail
  rw [← unhide hX2']
  refine (unhide hsr _ ((unhide S2).row (unhide hzb'))).mono ?_
  rintro e w3 ⟨v3, L3, rfl, own3, hL3, b3⟩
  obtain ⟨X3, hX3⟩ : ∃ X3, X3 = w3.alloc (.cells #[.int .i64 cd, .int .i64 ps] 27) := ⟨_, rfl⟩
  have Bb : Below w3.heap.size w3 X3 := by rw [hX3]; exact (Below.refl _ _).alloc (Nat.le_refl _) _
  have Bc := b3.trans (Bb.mono b3.size)
  have f0 : X3.cell? ⟨w3.heap.size, 0, none⟩ = some (.int .i64 cd) := by rw [hX3]; simp [go_sem]
  have f1 : X3.cell? ⟨w3.heap.size, 1, none⟩ = some (.int .i64 ps) := by rw [hX3]; simp [go_sem]
  have e0 := cell_lat Bc d0
  have e1 := cell_lat Bc d1
  have S3 := hide ((unhide S2).later Bc)
  have M3 := hide (carryB (unhide M2') Bc)
  have hX3' := hide hX3
  have q0 := e0
  have q1 := e1
  have q2 := f0
  have q3 := f1
  rw [hX3] at q0 q1 q2 q3
  clear own3 hL3 b3 Bb Bc hX3 S2 M2' hsr d0 d1
  go_wp2_with fail
  rw [← unhide hX3']
  have S4 := S3
  have M4 := M3
  have g0 := e0
  have g1 := e1
  clear S3 M3 e0 e1 q0 q1 q2 q3 f0 f1
  refine (unhide hsv _ ((unhide S4).row (unhide hzb'))).mono ?_
  rintro e w5 ⟨v5, L5, rfl, own5, ⟨hL5, hN5⟩, b5⟩
  obtain ⟨a5, c5, rfl, hc51, hc52, P5⟩ := own_out own5 hL5
  have S5 := hide ((unhide S4).later b5)
  have M5 := hide (carryB (unhide M4) b5)
  have P5' := hide P5
  have k0 := cell_lat b5 g0
  have k1 := cell_lat b5 g1
  clear own5 hL5 hN5 b5 P5 S4 M4 hsv g0 g1
  by_cases hcd : cd = 0
  · obtain ⟨h1, h2, h3⟩ := unhide hf0' hcd
    subst hcd h2
    have hsh := hide h3
    clear hf0' hf1' h1 h3 k1 hss
    obtain ⟨sb, hsb⟩ : ∃ sb, strOfNums zs = sb := ⟨_, rfl⟩
    rw [hsb] at hcv
    have hsb' := hide hsb
    have P5d := hide (carryB (unhide P5') ((Below.refl _ _).drew))
    have M5d := hide (carryB (unhide M5) ((Below.refl _ _).drew))
    have S5d := hide ((unhide S5).later ((Below.refl _ _).drew))
    clear hsb P5' M5 S5
    go_wp2_with fail
    go_region_law ((first
      | (go_simp
         go_at_call 9
         refine (same_any a5 a2 c5 c2 (At2 L5) (At2 L2) _ w5.drew (by omega) (unhide P5d) (unhide M5d)).mono ?_
         rintro e w6 ⟨rfl, n6, hw6⟩
         have b6 : Below w5.drew.heap.size w5.drew w6 := by rw [hw6]; exact below_drewN (Below.refl _ _) n6
         have S6 := hide ((unhide S5d).later b6)
         have M6 := hide (carryB (unhide M5d) b6)
         have cv6 := unhide hcv _ ((unhide S6).row (unhide hzb'))
         clear b6 hw6)
      | (go_simp
         go_at_call 10
         refine (ishow_o a2 c2 (At2 L2) _ w6 (by omega) (unhide hsm') hc21 hc22 (unhide hN2') (unhide M6)).mono ?_
         rintro e w7 hE
         rw [unhide hsh] at hE
         obtain ⟨g7, c7, rfl, own7, b7⟩ := hE
         have S7 := hide ((unhide S6).later b7)
         have cvb := unhide hcv _ ((unhide S7).row (unhide hzb'))
         have cvs := cv_row ((row_of_own own7 (unhide hzb')).read.mono (Nat.zero_le _) ((own7.lt g7 rfl).2)) c7
         rw [unhide hsb', hzl] at cvs
         clear own7 b7)))
    all_goals (
      go_wp2
      go_ret
      exact ⟨rfl, (unhide S7).b⟩)
  · obtain ⟨h1, h2, h3⟩ := unhide hf1' hcd
    have hcd' : (cd == 0) = false := by simpa using hcd
    subst h1
    have hp1 : decide ((0 : Int) ≤ ps) = true := decide_eq_true h2
    have hp2 : decide (ps < (n : Int)) = true := decide_eq_true h3
    clear hf0' hf1' hcd h2 h3
    go_wp2_with fail
    refine (iok_any a5 c5 (At2 L5) sl true _ (by omega) (unhide hsm') (unhide P5') (unhide hok')).mono ?_
    rintro e w6 ⟨rfl, b6⟩
    have S6 := hide ((unhide S5).later b6)
    have P6 := hide (carryB (unhide P5') b6)
    clear b6 S5 P5' M5
    go_wp2_with fail
    refine (unhide hss _ ((unhide S6).row (unhide hzb'))).mono ?_
    rintro e w7 ⟨v7, L7, rfl, own7, hL7, b7⟩
    obtain ⟨a7, c7, rfl, hc71, hc72, Q7⟩ := own_out own7 hL7
    have S7 := hide ((unhide S6).later b7)
    have P7 := hide (carryB (unhide P6) b7)
    have Q7' := hide Q7
    clear own7 hL7 b7 S6 P6 Q7
    go_wp2_with fail
    refine (same_any a5 a7 c5 c7 (At2 L5) (At2 L7) sl _ (by omega) (unhide P7) (unhide Q7')).mono ?_
    rintro e w8 ⟨rfl, n8, rfl⟩
    go_wp2
    go_ret
    exact ⟨rfl, below_drewN (unhide S7).b n8⟩

end Go.Proofs.Ytfdbnlmfnhhcbaa
