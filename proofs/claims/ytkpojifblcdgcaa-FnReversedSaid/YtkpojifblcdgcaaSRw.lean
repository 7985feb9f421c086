/-
  Contract of the model's Reverse; the answer is new memory, nothing that was there is written.
-/
import Derived.Test.YtkpojifblcdgcaaSEd
import Derived.Test.YtkpojifblcdgcaaSpP
import Derived.Test.YtkpojifblcdgcaaTrk
namespace Go.Proofs.Ytkpojifblcdgcaa
open Go.RowKit
set_option linter.unusedVariables false
set_option linter.unusedSimpArgs false

theorem grown_allocR {X w' : World} {o : Obj} {g : Option Nat} (h : (X.alloc o).grownBy w' g) : X.grownBy w' g :=
  ⟨h.os, h.tape, h.output, by have := h.size; simp at this; omega, fun k hk hne => (h.block k (by simp; omega) hne).trans (((Below.refl X.heap.size X).alloc (Nat.le_refl _) o).block k hk)⟩
/-- one clip more behind an owned list: all blocks but its row stand -/
theorem wpList_kg {T : TypeId} (hT : Try.prog.underlying T = some (.slice 40)) {ops : Array Oper} {rest : List Oper} {o : Oper} {a : Act} {Q : Exit → Act → World → Prop} {X : World} {B g n cap : Nat} {v1 v2 v3 : Int} {L : List Kl} (hgd : o.guard = none) (s x : Operand) (ho : o.op = .call { callee := .builtin .append, args := #[s, x], argTypes := #[T, T] })
    (hs : a.eval s = .slice (some ⟨g, 0, none⟩) n cap) (hown : Own X B g n cap L) (E : Nat) (hE : X.heap.size = E) (hx : a.eval x = .slice (some ⟨E, 0, none⟩) 1 1) (hl : n ≤ 1000000) (hB : B ≤ X.heap.size)
    (h : ∀ g' cap' w', Own w' B g' (n + 1) cap' (L ++ [(v1, v2, v3)]) → X.grownBy w' (some g) → (g' = g ∨ X.heap.size ≤ g') → wpList Try.prog ops Q rest (a.put o.dst (.slice (some ⟨g', 0, none⟩) (n + 1) cap')) w') : wpList Try.prog ops Q (o :: rest) a (X.alloc (.cells #[.int .i64 v1, .int .i64 v2, .int .i64 v3] 40)) := by
  subst hE
  obtain ⟨i0, hi, hz0, hz1, hz2⟩ := info_parts info44
  have hg := own_lt hown
  have hown2 : Own (X.alloc (.cells #[.int .i64 v1, .int .i64 v2, .int .i64 v3] 40)) B g n cap L := ownsRow_below hown ((Below.refl X.heap.size X).alloc (Nat.le_refl _) _)
  refine wpList_append_lies _ hgd s x T ho B 40 i0 (.agg #[.int .i64 0, .int .i64 0, .int .i64 0]) 3 24 hT hi hz0 hz1 hz2 rfl (by decide) _ n (flK L) hs hown2 ⟨X.heap.size, 0, none⟩ 1 1 [iv v1, iv v2, iv v3] hx rfl (K_news (c := (v1, v2, v3)) (heap_alloc_new X _)) (by intro u hu; simp at hu; rcases hu with rfl | rfl | rfl <;> rfl) (by decide) (by unfold maxLen; omega) (by omega) (by simp; omega) _ rfl ?_
  intro g' cap' w' h1 h2 h3 h4
  refine h g' cap' w' (by show World.ownsRow _ _ _ _ _ _ _; rw [flK_append]; exact h1) ?_ ?_
  · have h2' : (X.alloc (.cells #[.int .i64 v1, .int .i64 v2, .int .i64 v3] 40)).grownBy w' (some g) := by simpa [Value.ownBlock] using h2
    exact grown_allocR h2'
  · rcases h3 with h3 | h3
    · simp [Value.ownBlock] at h3; omega
    · simp at h3; omega
theorem cell_block {w w' : World} {B o : Nat} (h : w'.heap[B]? = w.heap[B]?) : w'.cell? ⟨B, o, none⟩ = w.cell? ⟨B, o, none⟩ := by
  unfold World.cell?; rw [h]
theorem clen_drop_le {l : List Kl} (h : AOk l) (k : Nat) : clen (l.drop k) ≤ clen l := by
  have e : clen l = clen (l.take k) + clen (l.drop k) := by rw [← clen_append, List.take_append_drop]
  have := clen_nonneg (h.take k)
  omega
end Go.Proofs.Ytkpojifblcdgcaa
namespace Go.Proofs.Ytkpojifblcdgcaa.Y
open Go.Proofs.Ytkpojifblcdgcaa
open Go.RowKit

set_option maxHeartbeats 3200000 in
theorem srev_any (a : Option Addr) (cap : Nat) (l : List Kl) (R : Option (List Kl)) (w : World) (hl : l.length ≤ maxLen) (hk : Kls w a l) (hR : revOf l = R) :
    Calls Try.prog 7 #[.slice a l.length cap] w fun e w' => EdR w w' R e := by
  have hk' := hide hk
  have hl' := hide hl
  have hR' := hide hR
  clear hk hl hR
  by_cases hT : TOk l
  · have hT' := hide hT
    have hd := hide (decide_eq_true hT)
    have hA' := hide hT.2.1
    have hl3 := hT.1
    by_cases h2 : 2000 < clen l
    · have hr : R = none := by rw [← unhide hR']; exact rev_no (fun h => by have := h.2; omega)
      have hsl := fun W hb => slen_any a cap l W (by omega) hT.2.1 ((unhide hk').below hb)
      obtain ⟨n, hn⟩ : ∃ n, clen l = n := ⟨_, rfl⟩
      rw [hn] at hsl h2
      have h2' : decide ((2000 : Int) < n) = true := by simpa using h2
      have hsl' := hide hsl
      clear hT h2 hn hsl
      go_enter Try.func7, Try.ntmps7
      go_wp2_with fail
      refine (strack_any a cap l true _ (unhide hl') (unhide hk') (unhide hd)).mono ?_
      rintro e w1 ⟨rfl, hb1⟩
      have H1 := hide hb1
      clear hb1
      go_wp2_with fail
      refine (unhide hsl' _ (unhide H1)).mono ?_
      rintro e w2 ⟨rfl, hw0⟩
      have hw1 := hw0.symm
      subst hw1
      go_wp2
      exact bodyPost_ret (v := .tuple #[.slice (some ⟨w1.heap.size, 0, none⟩) 0 0, .bool false]) (by simp [results, Try.results7, go_sem]) rfl (edR_none hr (unhide H1))
    · have hr : edit (revM l) = R := by rw [← unhide hR', rev_yes hT (by omega)]
      have hlen : Hid (∀ k, (revM (l.drop k)).length ≤ 2000) := hide (fun k => by
        have h1 := revM_len (hT.2.1.drop k)
        have h3 := clen_drop_le hT.2.1 k
        omega)
      have hsl := fun W hb => slen_any a cap l W (by omega) hT.2.1 ((unhide hk').below hb)
      obtain ⟨n, hn⟩ : ∃ n, clen l = n := ⟨_, rfl⟩
      rw [hn] at hsl h2
      have h2' : decide ((2000 : Int) < n) = false := by simpa using h2
      have hsl' := hide hsl
      have hr' := hide hr
      clear hT h2 hn hsl hr
      go_enter Try.func7, Try.ntmps7
      go_wp2_with fail
      refine (strack_any a cap l true _ (unhide hl') (unhide hk') (unhide hd)).mono ?_
      rintro e w1 ⟨rfl, hb1⟩
      have H1 := hide hb1
      clear hb1
      go_wp2_with fail
      refine (unhide hsl' _ (unhide H1)).mono ?_
      rintro e w2 ⟨rfl, hw0⟩
      have hw1 := hw0.symm
      subst hw1
      have hws := (unhide H1).size
      have h0 : Hid (Go.Proofs.Ytkpojifblcdgcaa.Own (w1.alloc (.cells #[] 40)) w.heap.size w1.heap.size 0 0 (revM (l.drop l.length))) := hide (by rw [List.drop_length]; exact Go.Proofs.Ytkpojifblcdgcaa.own_lit0 w1 hws)
      have hl0 : Hid ((revM (l.drop l.length)).length = 0) := hide (by rw [List.drop_length]; rfl)
      have hb0 := hide ((unhide H1).alloc hws (.cells #[] 40))
      clear hsl'
      go_wp2
      go_loopw [4, 5] (fun z y wr => ∃ (k g c m : Nat) (j : Int), k ≤ l.length ∧ Hid (j = (k : Int) - 1) ∧ y = .int .i64 j ∧ Hid ((revM (l.drop k)).length = m) ∧ z = .slice (some ⟨g, 0, none⟩) m c ∧ w.heap.size ≤ g ∧ Hid (Go.Proofs.Ytkpojifblcdgcaa.Own wr w.heap.size g m c (revM (l.drop k))) ∧ Hid (Below w.heap.size w wr)) (fun _ y _ => (intOf y + 1).toNat)
      case atStart => exact ⟨l.length, w1.heap.size, 0, 0, (l.length : Int) - 1, Nat.le_refl _, hide rfl, rfl, hl0, rfl, hws, h0, hb0⟩
      case round =>
        clear h0 hb0 H1 hws hl0
        obtain ⟨k, g, c, m, j, hk, hj, rfl, hm, rfl, hg, ho, hw⟩ := hrel
        by_cases hk0 : k = 0
        · have hj0 : j = -1 := by have := unhide hj; omega
          subst hj0
          have ho2 : Hid (Go.Proofs.Ytkpojifblcdgcaa.Own wr w.heap.size g m c (revM l)) := hide (by have := unhide ho; rw [hk0] at this; exact this)
          have hm2 : (revM l).length = m := by have := unhide hm; rw [hk0] at this; exact this
          have hi := sedit_any (some ⟨g, 0, none⟩) c (revM l) wr (by have := unhide hlen 0; rw [List.drop_zero] at this; omega) (kls_own (unhide ho2))
          rw [unhide hr', hm2] at hi
          have hi' := hide hi
          clear hi hm2 ho hm hj hk0
          go_wp2_with fail
          refine (unhide hi').mono ?_
          rintro e w5 ⟨g1, c1, rfl, hg1, ho1, hb1⟩
          have hfin := hide (edR_from ⟨g1, c1, rfl, hg1, ho1, hb1⟩ (unhide hw) : EdR w w5 R (.returned (.tuple #[.slice (some ⟨g1, 0, none⟩) (outL R).length c1, .bool R.isSome])))
          clear ho1 hb1 hi' ho2
          go_wp2
          exact bodyPost_ret (v := .tuple #[.slice (some ⟨g1, 0, none⟩) (outL R).length c1, .bool R.isSome]) (by simp [results, Try.results7, go_sem]) rfl (unhide hfin)
        · obtain ⟨p, hp⟩ : ∃ p, k = p + 1 := ⟨k - 1, by omega⟩
          have hj0 : j = (p : Int) := by have := unhide hj; omega
          subst hj0
          have hpl : p < l.length := by omega
          obtain ⟨b, o, s, i, q, rfl, hx, c0, c1, c2⟩ := kls_at (unhide hk') (unhide hw) hpl
          have hcok := unhide hA' _ (List.mem_of_getElem? hx)
          obtain ⟨q0, q1, i0, i1, _⟩ := hcok
          simp only at q0 q1 i0 i1
          have hat := hide (show revM (l.drop p) = revM (l.drop k) ++ revK (s, i, q) by rw [hp]; exact revM_at hx)
          have hlp := hide (unhide hlen p)
          have hge : decide ((0 : Int) ≤ (p : Int)) = true := by simp
          obtain ⟨L0, hL0⟩ : ∃ L0, revM (l.drop k) = L0 := ⟨_, rfl⟩
          rw [hL0] at hat ho hm
          have hm1 : L0.length = m := unhide hm
          have hws := (unhide hw).size
          have hglt := own_lt (unhide ho)
          have hXb := hide ((unhide hw).alloc hws (.cells #[.int .i64 s, .int .i64 i, .int .i64 q] 40))
          have hX1 := hide (ownsRow_below (unhide ho) ((Below.refl wr.heap.size wr).alloc (Nat.le_refl _) (.cells #[.int .i64 s, .int .i64 i, .int .i64 q] 40)))
          have d0 : (wr.alloc (.cells #[.int .i64 s, .int .i64 i, .int .i64 q] 40)).cell? ⟨wr.heap.size, 0, none⟩ = some (.int .i64 s) := by simp [go_sem]
          have d1 : (wr.alloc (.cells #[.int .i64 s, .int .i64 i, .int .i64 q] 40)).cell? ⟨wr.heap.size, 1, none⟩ = some (.int .i64 i) := by simp [go_sem]
          have d2 : (wr.alloc (.cells #[.int .i64 s, .int .i64 i, .int .i64 q] 40)).cell? ⟨wr.heap.size, 2, none⟩ = some (.int .i64 q) := by simp [go_sem]
          obtain ⟨X, hX⟩ : ∃ X, X = wr.alloc (.cells #[.int .i64 s, .int .i64 i, .int .i64 q] 40) := ⟨_, rfl⟩
          have hXs : X.heap.size = wr.heap.size + 1 := by rw [hX]; simp
          rw [← hX] at hXb hX1 d0 d1 d2
          have hX' := hide hX
          have hm1' := hide hm1
          have hp' := hide hp
          have hpr : Hid ((p : Int) - 1 = (p : Int) - 1) := hide rfl
          obtain ⟨B, hB⟩ : ∃ B, wr.heap.size = B := ⟨_, rfl⟩
          by_cases hs0 : s = 0
          · have hsb : (s == 0) = true := by simp [hs0]
            have hrk := hide (show revM (l.drop p) = L0 ++ [(s, i, q)] by rw [unhide hat]; unfold revK; rw [if_pos hs0])
            have hln : Hid ((revM (l.drop p)).length = m + 1) := hide (by rw [unhide hrk]; simp [hm1])
            have hmb : m ≤ 1000000 := by have := unhide hlp; have h3 := unhide hln; omega
            subst hX
            clear hx hs0 hm hm1 hat hj hk0 hp hL0 ho hlp hX' hB hpr hXs
            go_wp2_with (at_builtin; refine wpList_kg Try.underlying24 (X := wr.alloc (.cells #[.int .i64 s, .int .i64 i, .int .i64 q] 40)) (B := w.heap.size) (g := g) (n := m) (cap := c) (L := L0) rfl _ _ rfl rfl (unhide hX1) (wr.heap.size + 1) (by simp) rfl hmb (by simp; omega) ?_)
            intro g' cap' w' hown' hgr' hg'
            have hnew := hide (show Go.Proofs.Ytkpojifblcdgcaa.Own w' w.heap.size g' (m + 1) cap' (revM (l.drop p)) by rw [unhide hrk]; exact hown')
            have hwn := hide (below_grown (unhide hXb) hgr' hg)
            have hg2 : w.heap.size ≤ g' := by rcases hg' with h | h <;> first | omega | (simp at h; omega)
            clear hown' hgr' hg' hX1 hXb hw
            go_wp2
            go_roundw
            case rel => exact ⟨p, g', cap', m + 1, (p : Int) - 1, by omega, hide rfl, by go_num, hln, rfl, hg2, hnew, hwn⟩
            case measure => simp [intOf]
          · have hsb : (s == 0) = false := by simpa using hs0
            obtain ⟨nn, hnn⟩ : ∃ nn : Nat, q = nn := ⟨q.toNat, by omega⟩
            have hrk := hide (show revM (l.drop p) = L0 ++ rev1 (s, i, q) nn by rw [unhide hat]; unfold revK; rw [if_neg hs0, hnn, Int.toNat_natCast])
            have hln : Hid ((revM (l.drop p)).length = m + nn) := hide (by rw [unhide hrk, List.length_append, rev1_len, hm1])
            have hmb : m + nn ≤ 2000 := by have := unhide hlp; have h3 := unhide hln; omega
            have hgB : Hid (g ≠ B) := hide (by omega)
            have hXB : Hid (B < X.heap.size) := hide (by omega)
            have hnn' := hide hnn
            have hwB : w.heap.size ≤ B := by omega
            have e1 : Hid (q - 1 = (nn : Int) - 1 - ((0 : Nat) : Int)) := hide (by omega)
            have hr0 : Hid (Go.Proofs.Ytkpojifblcdgcaa.Own X w.heap.size g (m + 0) c (L0 ++ rev1 (s, i, q) 0)) := hide (by rw [Nat.add_zero]; have := unhide hX1; simpa [rev1] using this)
            have hB' := hide hB
            rw [hB] at d0 d1 d2
            clear hx hs0 hm hm1 hat hj hk0 hp hL0 hX ho hlp hw hnn hX1 hglt hws hB hpr hXs
            go_wp2_with fail
            rw [← unhide hX', unhide hB']
            clear c0 c1 c2 hX' hB'
            go_loopw [4, 7] (fun z y wr => ∃ (j g c : Nat) (f : Int), j ≤ nn ∧ Hid (f = (nn : Int) - 1 - (j : Nat)) ∧ y = .int .i64 f ∧ z = .slice (some ⟨g, 0, none⟩) (m + j) c ∧ w.heap.size ≤ g ∧ Hid (g ≠ B) ∧ Hid (B < wr.heap.size) ∧ Hid (wr.cell? ⟨B, 0, none⟩ = some (.int .i64 s)) ∧ Hid (wr.cell? ⟨B, 1, none⟩ = some (.int .i64 i)) ∧ Hid (Go.Proofs.Ytkpojifblcdgcaa.Own wr w.heap.size g (m + j) c (L0 ++ rev1 (s, i, q) j)) ∧ Hid (Below w.heap.size w wr)) (fun _ y _ => (intOf y + 1).toNat)
            case atStart => exact ⟨0, g, c, q - 1, Nat.zero_le _, e1, rfl, rfl, hg, hgB, hXB, hide d0, hide d1, hr0, hXb⟩
            case round =>
              clear d0 d1 d2 e1 hr0 hXb hgB hXB hg
              obtain ⟨j, g, c, f, hjn, hf, rfl, rfl, hg, hgB, hBs, e0', e1', ho, hw⟩ := hrel
              have e0 := unhide e0'
              have e1 := unhide e1'
              have hqn := unhide hnn'
              have hff := unhide hf
              by_cases hlt : j < nn
              · have hf0 : decide ((0 : Int) ≤ f) = true := by simp; omega
                have hf1 : 0 ≤ f := by omega
                have hf2 : f ≤ q := by omega
                have hsn := hide (show L0 ++ rev1 (s, i, q) (j + 1) = L0 ++ (rev1 (s, i, q) j ++ [(s, i + f, 1)]) by
                  rw [rev1_succ]
                  simp only
                  rw [show i + (q - 1 - (j : Nat)) = i + f by omega])
                have hfn := hide (show f - 1 = (nn : Int) - 1 - ((j + 1 : Nat) : Int) by omega)
                have hwsz := (unhide hw).size
                clear hqn hff e0' e1'
                go_wp2_with (at_builtin; refine wpList_kg Try.underlying24 (X := wr) (B := w.heap.size) (g := g) (n := m + j) (cap := c) (L := L0 ++ rev1 (s, i, q) j) rfl _ _ rfl rfl (unhide ho) wr.heap.size rfl rfl (by omega) hwsz ?_)
                intro g' cap' w' hown' hgr' hg'
                have hbl := hgr'.block B (unhide hBs) (by intro h; injection h with h; exact unhide hgB h.symm)
                have hnew := hide (show Go.Proofs.Ytkpojifblcdgcaa.Own w' w.heap.size g' (m + (j + 1)) cap' (L0 ++ rev1 (s, i, q) (j + 1)) by rw [unhide hsn, ← Nat.add_assoc]; first | exact hown' | (rw [← List.append_assoc]; exact hown'))
                have hwn := hide (below_grown (unhide hw) hgr' hg)
                have hg2 : w.heap.size ≤ g' := by omega
                have hgB2 := hide (show g' ≠ B by have h1 := unhide hBs; have h2 := unhide hgB; omega)
                have hBs2 := hide (show B < w'.heap.size from Nat.lt_of_lt_of_le (unhide hBs) hgr'.size)
                have c0 := hide (show w'.cell? ⟨B, 0, none⟩ = some (.int .i64 s) by rw [cell_block hbl]; exact e0)
                have c1 := hide (show w'.cell? ⟨B, 1, none⟩ = some (.int .i64 i) by rw [cell_block hbl]; exact e1)
                clear hown' hgr' hg' hbl ho hw hBs hgB e0 e1
                go_wp2
                go_roundw
                case rel => exact ⟨j + 1, g', cap', f - 1, by omega, hfn, by go_num, by rw [Nat.add_assoc], hg2, hgB2, hBs2, c0, c1, hnew, hwn⟩
                case measure => simp [intOf]; omega
              · have hjn2 : j = nn := by omega
                have hfm : f = -1 := by omega
                subst hfm
                subst hjn2
                have hnew := hide (show Go.Proofs.Ytkpojifblcdgcaa.Own wr w.heap.size g (m + j) c (revM (l.drop p)) by rw [unhide hrk]; exact unhide ho)
                clear hqn hff e0' e1' e0 e1 ho hrk
                go_wp2
                go_roundw
                case rel => exact ⟨p, g, c, m + j, (p : Int) - 1, by omega, hide rfl, by go_num, hln, rfl, hg, hnew, hw⟩
                case measure => simp [intOf]
  · have hd := hide (decide_eq_false hT)
    have hr : R = none := by rw [← unhide hR']; exact rev_no (fun h => hT h.1)
    clear hT
    go_enter Try.func7, Try.ntmps7
    go_wp2_with fail
    refine (strack_any a cap l false _ (unhide hl') (unhide hk') (unhide hd)).mono ?_
    rintro e w1 ⟨rfl, hb1⟩
    have H1 := hide hb1
    clear hb1
    go_wp2
    exact bodyPost_ret (v := .tuple #[.slice (some ⟨w1.heap.size, 0, none⟩) 0 0, .bool false]) (by simp [results, Try.results7, go_sem]) rfl (edR_none hr (unhide H1))
end Go.Proofs.Ytkpojifblcdgcaa.Y
