/-
  The frames that tracks show: tracks in memory; the program's functions and their contracts.
-/
import Derived.Test.YtfbifffmieimoaaICv
import Derived.Test.YtfbifffmieimoaaOpn
namespace Go.Proofs.Ytfbifffmieimoaa.Rl
open Go.RowKit
open Go.Proofs.Ytfbifffmieimoaa
set_option linter.unusedVariables false
set_option linter.unusedSimpArgs false

/-- tracks behind the address a -/
def Tks (w : World) (a : Option Addr) (ts : List (List Kl)) : Prop :=
  ∀ j t, ts[j]? = some t → ∃ b o p c, a = some ⟨b, o, none⟩ ∧ b < w.heap.size ∧ w.cell? ⟨b, o + j, none⟩ = some (.slice p t.length c) ∧ Kls w p t ∧ t.length ≤ maxLen
theorem Tks.below {w w' : World} {a : Option Addr} {ts : List (List Kl)} (h : Tks w a ts) (s : Below w.heap.size w w') : Tks w' a ts := by
  intro j t ht
  obtain ⟨b, o, p, c, e, h1, h2, h3, h4⟩ := h j t ht
  exact ⟨b, o, p, c, e, Nat.lt_of_lt_of_le h1 s.size, ((bcell s).1 b _ h1).trans h2, h3.below s, h4⟩
theorem reels_snoc {h : Int} {l : List Kl} {k : Nat} {x : Kl} (hx : l[k]? = some x) : reelsOf h (l.take (k + 1)) = reelsOf h (l.take k) ++ reelOf h x := by
  rw [take_snocK hx]; simp [reelsOf]
theorem reels_len (h : Int) (l : List Kl) : (reelsOf h l).length ≤ l.length := by
  induction l with
  | nil => simp [reelsOf]
  | cons c l ih =>
    have e : reelsOf h (c :: l) = reelOf h c ++ reelsOf h l := by simp [reelsOf]
    have h1 : (reelOf h c).length ≤ 1 := by unfold reelOf; split <;> simp
    rw [e, List.length_append, List.length_cons]; omega
theorem shown_snoc {h : Int} {ts : List (List Kl)} {k : Nat} {t : List Kl} (hx : ts[k]? = some t) : shownOf h (ts.take (k + 1)) = shownOf h (ts.take k) ++ reelsOf h t := by
  rw [List.take_add_one, hx]; simp [shownOf]
theorem shown_len {h : Int} {ts : List (List Kl)} (hc : ∀ t ∈ ts, TOk t) : (shownOf h ts).length ≤ ts.length * 300 := by
  induction ts with
  | nil => simp [shownOf]
  | cons t ts ih =>
    have e : shownOf h (t :: ts) = reelsOf h t ++ shownOf h ts := by simp [shownOf]
    have h1 := reels_len h t
    have h2 := (hc t List.mem_cons_self).1
    have h3 := ih (fun x hx => hc x (List.mem_cons_of_mem _ hx))
    rw [e, List.length_append, List.length_cons]; omega

set_option maxHeartbeats 3200000 in
theorem irl_any (h : Int) (a : Option Addr) (cap : Nat) (l : List Kl) (w : World) (h0 : 0 ≤ h) (h1 : h ≤ 1000) (hl : l.length ≤ 100000) (hA : AOk l) (hk : Kls w a l) :
    Calls Try.prog 32 #[.slice a l.length cap, .int .i64 h] w fun e w' => ∃ g c, e = .returned (.slice (some ⟨g, 0, none⟩) (reelsOf h l).length c) ∧ Own w' w.heap.size g (reelsOf h l).length c (reelsOf h l) ∧ Below w.heap.size w w' := by
  have hk' := hide hk
  have hA' := hide hA
  clear hk hA
  have hi0 := hide (own_lit0 w (B := w.heap.size) (Nat.le_refl _))
  have hb0 := hide ((Below.refl w.heap.size w).alloc (Nat.le_refl _) (.cells #[] 34))
  go_enter Try.func32, Try.ntmps32
  go_wp2
  go_loopw [5, 11] (fun s t wr => ∃ k g c : Nat, k ≤ l.length ∧ t = .int .i64 k ∧ s = .slice (some ⟨g, 0, none⟩) (reelsOf h (l.take k)).length c ∧ Hid (Own wr w.heap.size g (reelsOf h (l.take k)).length c (reelsOf h (l.take k))) ∧ Hid (Below w.heap.size w wr)) (fun _ t _ => l.length - (intOf t).toNat)
  case atStart => exact ⟨0, w.heap.size, 0, by omega, rfl, rfl, hi0, hb0⟩
  case round =>
    clear hi0 hb0
    obtain ⟨k, g, cp, hk, rfl, rfl, hO, hB⟩ := hrel
    by_cases hlt : k < l.length
    · obtain ⟨b, o', s, i, n, rfl, hx, c0, c1, c2⟩ := kls_at (unhide hk') (unhide hB) hlt
      have hcA := (unhide hA') _ (List.mem_of_getElem? hx)
      have hsn := hide (reels_snoc (h := h) hx)
      have hll := Nat.le_trans (reels_len h (l.take k)) (List.length_take_le k l)
      have hXb : Below wr.heap.size wr (wr.alloc (.cells #[.int .i64 s, .int .i64 i, .int .i64 n] 54)) := (Below.refl _ _).alloc (Nat.le_refl _) _
      have hOX := hide (ownsRow_below (unhide hO) hXb)
      have hBX := hide (laterB (unhide hB) hXb)
      have hbx := hide (heap_alloc_new wr (.cells #[.int .i64 s, .int .i64 i, .int .i64 n] 54))
      have hglt : g < wr.heap.size := own_lt (unhide hO)
      have hwl : w.heap.size ≤ wr.heap.size := (unhide hB).size
      obtain ⟨q1, q2, q3, q4, q5⟩ := hcA
      simp only [] at q1 q2 q3 q4 q5
      generalize reelsOf h (l.take k) = L at *
      clear hx hXb hO hB
      by_cases hs : s = 0
      · have hE : Hid (reelsOf h (l.take (k + 1)) = L) := hide (by rw [unhide hsn]; simp [reelOf, hs])
        have hs' := hide hs
        clear hs hsn
        go_wp2_with fail
        refine (gap_any s i n true _ (by simp [unhide hs'])).mono ?_
        rintro e w1 ⟨rfl, k1⟩
        have hO1 := hide (ownsRow_below (unhide hOX) k1)
        have hB1 := hide (laterB (unhide hBX) k1)
        clear k1 hOX hBX
        go_wp2
        go_roundw
        case rel => exact ⟨k + 1, g, cp, by omega, by go_num, by rw [unhide hE], hide (by rw [unhide hE]; exact unhide hO1), hB1⟩
        case measure => simp [intOf]; omega
      · have hE : Hid (reelsOf h (l.take (k + 1)) = L ++ [(s, max (i - h) 0, min (i + n + h) 10000000)]) := hide (by rw [unhide hsn]; simp [reelOf, hs])
        have hw1 : IntKind.i64.wrap (i - h) = i - h := by rw [IntKind.wrap_i64]; omega
        have hw2 : IntKind.i64.wrap (i + n) = i + n := by rw [IntKind.wrap_i64]; omega
        have hw3 : IntKind.i64.wrap (i + n + h) = i + n + h := by rw [IntKind.wrap_i64]; omega
        have hs' := hide hs
        clear hs hsn
        go_wp2_with fail
        refine (gap_any s i n false _ (by simpa using unhide hs')).mono ?_
        rintro e w1 ⟨rfl, k1⟩
        have hO1 := hide (ownsRow_below (unhide hOX) k1)
        have hB1 := hide (laterB (unhide hBX) k1)
        obtain ⟨d0, d1, d2⟩ := blk3 (blk_below (unhide hbx) k1)
        have hs1 := k1.size
        clear k1 hOX hBX hbx
        go_wp2_with (at_builtin; refine wpList_kg Try.underlying27 rfl _ _ rfl w.heap.size g L.length cp L rfl (unhide hO1) w1.heap.size rfl rfl (by omega) ?_)
        intro g' cap' w' hown' hgr' hg'
        have hN : Hid (Own w' w.heap.size g' (L ++ [(s, max (i - h) 0, min (i + n + h) 10000000)]).length cap' (L ++ [(s, max (i - h) 0, min (i + n + h) 10000000)])) := hide (by rw [List.length_append]; exact hown')
        have hB2 := hide (below_grown (unhide hB1) hgr' (own_ge (unhide hO1)))
        have hLL : Hid ((reelsOf h (l.take (k + 1))).length = L.length + 1) := hide (by rw [unhide hE]; simp)
        clear hown' hgr' hO1 hB1 d0 d1 d2
        go_wp2
        go_roundw
        case rel => exact ⟨k + 1, g', cap', by omega, by go_num, by rw [unhide hLL], hide (by rw [unhide hE]; exact unhide hN), hB2⟩
        case measure => simp [intOf]; omega
    · have hke : k = l.length := by omega
      have hR : Hid (reelsOf h (l.take k) = reelsOf h l) := hide (by rw [hke, List.take_length])
      have hke' := hide hke
      clear hke
      go_wp2
      go_ret
      rw [← unhide hR]
      exact ⟨g, cp, rfl, unhide hO, unhide hB⟩

/-- the argument is as the chapter wants it -/
def NdOk (ts : List (List Kl)) (h : Int) : Prop := ts.length ≤ 50 ∧ (0 ≤ h ∧ h ≤ 1000)
theorem needs_not {ts : List (List Kl)} {h : Int} (hn : ¬ NdOk ts h) : needsOf ts h = [] := by
  unfold needsOf; rw [if_neg (fun x => hn ⟨x.1, x.2.1⟩)]
theorem needs_bad {ts : List (List Kl)} {h : Int} {k : Nat} {t : List Kl} (hx : ts[k]? = some t) (ht : ¬ TOk t) : needsOf ts h = [] := by
  unfold needsOf; rw [if_neg (fun x => ht (x.2.2 t (List.mem_of_getElem? hx)))]
theorem needs_all {ts : List (List Kl)} {h : Int} (hn : NdOk ts h) (ha : ∀ t ∈ ts, TOk t) : needsOf ts h = told (shownOf h ts) := by
  unfold needsOf; rw [if_pos ⟨hn.1, hn.2, ha⟩]
theorem tok_more {ts : List (List Kl)} {k : Nat} {t : List Kl} (hx : ts[k]? = some t) (ha : ∀ t ∈ ts.take k, TOk t) (ht : TOk t) : ∀ t ∈ ts.take (k + 1), TOk t := by
  intro x hm
  rw [List.take_add_one, hx] at hm
  rcases List.mem_append.1 hm with h | h
  · exact ha x h
  · simp at h; rw [h]; exact ht

set_option maxHeartbeats 1600000 in
theorem ineed_not (a : Option Addr) (cap : Nat) (ts : List (List Kl)) (h : Int) (w : World) (hl : ts.length ≤ maxLen) (hn : ¬ NdOk ts h) :
    Calls Try.prog 10 #[.slice a ts.length cap, .int .i64 h] w fun e w' => ∃ g c, e = .returned (.slice (some ⟨g, 0, none⟩) 0 c) ∧ Own w' w.heap.size g 0 c [] ∧ Below w.heap.size w w' := by
  unfold maxLen at hl
  have hO := hide (own_lit0 w (B := w.heap.size) (Nat.le_refl _))
  have hB := hide ((Below.refl w.heap.size w).alloc (Nat.le_refl _) (.cells #[] 34))
  by_cases c1 : (50 : Int) < ts.length
  · have b1 : decide ((50 : Int) < ts.length) = true := by simpa using c1
    clear hn
    go_enter Try.func10, Try.ntmps10
    go_wp2
    go_ret
    exact ⟨_, _, rfl, unhide hO, unhide hB⟩
  · have b1 : decide ((50 : Int) < ts.length) = false := by simpa using c1
    by_cases c2 : h < 0
    · have b2 : decide (h < 0) = true := by simpa using c2
      clear hn
      go_enter Try.func10, Try.ntmps10
      go_wp2
      go_ret
      exact ⟨_, _, rfl, unhide hO, unhide hB⟩
    · have b2 : decide (h < 0) = false := by simpa using c2
      have b3 : decide (1000 < h) = true := by simp; refine Int.not_le.1 (fun x => hn ⟨by omega, by omega, x⟩)
      clear hn
      go_enter Try.func10, Try.ntmps10
      go_wp2
      go_ret
      exact ⟨_, _, rfl, unhide hO, unhide hB⟩

set_option maxRecDepth 100000 in
set_option maxHeartbeats 3200000 in
theorem ineed_ok (a : Option Addr) (cap : Nat) (ts : List (List Kl)) (h : Int) (w : World) (hn : NdOk ts h) (hk : Tks w a ts) :
    Calls Try.prog 10 #[.slice a ts.length cap, .int .i64 h] w fun e w' => ∃ g c, e = .returned (.slice (some ⟨g, 0, none⟩) (needsOf ts h).length c) ∧ Own w' w.heap.size g (needsOf ts h).length c (needsOf ts h) ∧ Below w.heap.size w w' := by
  obtain ⟨n1, h0, h1⟩ := hn
  have hn' : Hid (NdOk ts h) := hide ⟨n1, h0, h1⟩
  have hk' := hide hk
  clear hk
  have hi0 := hide (own_lit0 w (B := w.heap.size) (Nat.le_refl _))
  have hb0 := hide ((Below.refl w.heap.size w).alloc (Nat.le_refl _) (.cells #[] 34))
  have b1 : decide ((50 : Int) < ts.length) = false := by simp; omega
  have b2 : decide (h < 0) = false := by simp; omega
  have b3 : decide (1000 < h) = false := by simp; omega
  go_enter Try.func10, Try.ntmps10
  go_wp2
  go_loopw [5, 25] (fun s t wr => ∃ k g c : Nat, k ≤ ts.length ∧ t = .int .i64 k ∧ s = .slice (some ⟨g, 0, none⟩) (shownOf h (ts.take k)).length c ∧ Hid (Own wr w.heap.size g (shownOf h (ts.take k)).length c (shownOf h (ts.take k))) ∧ Hid (Below w.heap.size w wr) ∧ Hid (∀ t ∈ ts.take k, TOk t)) (fun _ t _ => ts.length - (intOf t).toNat)
  case atStart => exact ⟨0, w.heap.size, 0, by omega, rfl, rfl, hi0, hb0, hide (by simp)⟩
  case round =>
    clear hi0 hb0
    obtain ⟨k, g, cp, hk, rfl, rfl, hO, hB, hAll⟩ := hrel
    by_cases hlt : k < ts.length
    · obtain ⟨t, hx⟩ : ∃ t, ts[k]? = some t := ⟨ts[k], List.getElem?_eq_getElem hlt⟩
      obtain ⟨b, o, p, c, rfl, hb, hc, hK, hm⟩ := unhide hk' k t hx
      have hc' : wr.cell? ⟨b, o + k, none⟩ = some (.slice p t.length c) := ((bcell (unhide hB)).1 b _ hb).trans hc
      have hKr := hide (hK.below (unhide hB))
      have hsn := hide (shown_snoc (h := h) hx)
      have hbad := hide (fun ht => needs_bad (h := h) hx ht)
      have hmore := hide (fun ht => tok_more hx (unhide hAll) ht)
      have hsl := shown_len (h := h) (unhide hAll)
      have hsl2 : (ts.take k).length ≤ 50 := by rw [List.length_take]; omega
      have hglt : g < wr.heap.size := own_lt (unhide hO)
      have hwl : w.heap.size ≤ wr.heap.size := (unhide hB).size
      have hsl3 : (shownOf h (ts.take k)).length ≤ 15000 := by omega
      clear hx hc hK hsl hsl2
      generalize shownOf h (ts.take k) = L at *
      by_cases hT : TOk t
      · have hT' := hide hT
        have hA := hide hT.2.1
        have hrl := Nat.le_trans (reels_len h t) hT.1
        have ht3 := hT.1
        clear hT
        go_wp2_with fail
        refine (opened_ok p c t wr (unhide hT') (unhide hKr)).mono ?_
        rintro e w1 ⟨rfl, k1⟩
        have hO1 := hide (ownsRow_below (unhide hO) k1)
        have hB1 := hide (laterB (unhide hB) k1)
        have hK1 := hide ((unhide hKr).below k1)
        clear k1 hO hB hKr
        have hXb : Below w1.heap.size w1 (w1.alloc (.cells #[.slice p t.length c, .int .i64 (clen t)] 57)) := (Below.refl _ _).alloc (Nat.le_refl _) _
        have hO2 := hide (ownsRow_below (unhide hO1) hXb)
        have hB2 := hide (laterB (unhide hB1) hXb)
        have hK2 := hide ((unhide hK1).below hXb)
        have hs2 := (unhide hB1).size
        clear hXb hO1 hB1 hK1
        go_wp2_with fail
        refine (irl_any h p c t _ h0 h1 (by omega) (unhide hA) (unhide hK2)).mono ?_
        rintro e w3 ⟨g3, c3, rfl, hO3, k3⟩
        have hR3 := hide (kls_own hO3)
        have hO4 := hide (ownsRow_below (unhide hO2) k3)
        have hB4 := hide (laterB (unhide hB2) k3)
        have hs3 := k3.size
        clear hO3 k3 hO2 hB2 hK2
        generalize reelsOf h t = N at *
        go_wp2_with (at_builtin; refine wpList_appR Try.underlying27 w3 rfl _ _ rfl w.heap.size g L.length cp L N g3 0 c3 rfl (unhide hO4) rfl (unhide hR3) (by omega) (by omega) (by simp at hs3; omega) ?_)
        intro g7 c7 w7 hO7 hG7 hgo
        have hO7' : Hid (Own w7 w.heap.size g7 (shownOf h (ts.take (k + 1))).length c7 (shownOf h (ts.take (k + 1)))) := hide (by rw [unhide hsn, List.length_append]; exact hO7)
        have hB7 := hide (below_grown (unhide hB4) hG7 (own_ge (unhide hO4)))
        have hll : Hid ((shownOf h (ts.take (k + 1))).length = L.length + N.length) := hide (by rw [unhide hsn, List.length_append])
        have hall7 := hide (unhide hmore (unhide hT'))
        clear hO7 hG7 hgo hO4 hB4 hR3 hsn hmore
        go_wp2
        go_roundw
        case rel => exact ⟨k + 1, g7, c7, by omega, by go_num, by rw [unhide hll], hO7', hB7, hall7⟩
        case measure => simp [intOf]; omega
      · have hR := hide (unhide hbad hT)
        have hT' := hide hT
        clear hT
        go_wp2_with fail
        refine (opened_no p c t wr hm (unhide hT') (unhide hKr)).mono ?_
        rintro e w1 ⟨rfl, k1⟩
        have hB1 := hide (laterB (unhide hB) k1)
        clear k1 hO hB hKr
        have hXb : Below w1.heap.size w1 (w1.alloc (.cells #[.slice none 0 0, .int .i64 0] 57)) := (Below.refl _ _).alloc (Nat.le_refl _) _
        have hB2 := hide (laterB (unhide hB1) hXb)
        have hsz : (w1.alloc (.cells #[.slice none 0 0, .int .i64 0] 57)).heap.size = w1.heap.size + 1 := by simp
        have hO2 : Hid (Own ((w1.alloc (.cells #[.slice none 0 0, .int .i64 0] 57)).alloc (.cells #[] 34)) w.heap.size (w1.heap.size + 1) 0 0 []) := hide (by
          have h9 := own_lit0 (w1.alloc (.cells #[.slice none 0 0, .int .i64 0] 57)) (B := w.heap.size) (unhide hB2).size
          rw [hsz] at h9
          exact h9)
        clear hsz
        have hB3 := hide ((unhide hB2).alloc (unhide hB2).size (.cells #[] 34))
        clear hXb
        go_wp2
        go_ret
        rw [unhide hR]
        exact ⟨_, _, rfl, unhide hO2, unhide hB3⟩
    · have hke : k = ts.length := by omega
      have hAl : Hid (∀ t ∈ ts, TOk t) := hide (by have := unhide hAll; rw [hke, List.take_length] at this; exact this)
      have hR : Hid (needsOf ts h = told (shownOf h (ts.take k))) := hide (by rw [hke, List.take_length]; exact needs_all (unhide hn') (unhide hAl))
      have hsl := shown_len (h := h) (unhide hAll)
      have hsl2 : (ts.take k).length ≤ 50 := by rw [List.length_take]; omega
      have hsl3 : (shownOf h (ts.take k)).length ≤ 15000 := by omega
      have hok := hide (shown_ok (h := h) (ts := ts.take k) (fun t ht => (unhide hAll t ht).2.1) h0)
      have hwl : w.heap.size ≤ wr.heap.size := (unhide hB).size
      have hke' := hide hke
      clear hke hsl hsl2
      generalize shownOf h (ts.take k) = L at *
      go_wp2_with fail
      refine (itold_any (some ⟨g, 0, none⟩) cp L wr (by omega) (kls_own (unhide hO)) (unhide hok)).mono ?_
      rintro e w1 ⟨g1, c1, rfl, hO1, k1⟩
      have hO1' := hide (own_mono hO1 hwl)
      have hB1 := hide (laterB (unhide hB) k1)
      clear hO1 k1
      go_wp2
      go_ret
      rw [unhide hR]
      exact ⟨g1, c1, rfl, unhide hO1', unhide hB1⟩
theorem ineed_any (a : Option Addr) (cap : Nat) (ts : List (List Kl)) (h : Int) (w : World) (hl : ts.length ≤ maxLen) (hk : Tks w a ts) :
    Calls Try.prog 10 #[.slice a ts.length cap, .int .i64 h] w fun e w' => ∃ g c, e = .returned (.slice (some ⟨g, 0, none⟩) (needsOf ts h).length c) ∧ Own w' w.heap.size g (needsOf ts h).length c (needsOf ts h) ∧ Below w.heap.size w w' := by
  by_cases hn : NdOk ts h
  · exact ineed_ok a cap ts h w hn hk
  · rw [needs_not hn]; exact ineed_not a cap ts h w hl hn

end Go.Proofs.Ytfbifffmieimoaa.Rl
