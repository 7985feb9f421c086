/-
  Contracts of FrameAt and Joined, the model's and the program's; nothing that was there is written.
-/
import Derived.Test.YtnmahojdaodlgaaJn2
import Derived.Test.YtnmahojdaodlgaaPt2
namespace Go.Proofs.Ytnmahojdaodlgaa
open Go.RowKit
set_option linter.unusedVariables false
set_option linter.unusedSimpArgs false

/-- a list as Joined answers it -/
def joinOf (l : List Kl) : List Kl := if TOk l then join l else []
theorem joinOf_len (l : List Kl) : (joinOf l).length ≤ 300 := by
  unfold joinOf
  split
  · rename_i h; exact Nat.le_trans (len_join l) h.1
  · simp
def JnR (w w' : World) (L : List Kl) (e : Ending) : Prop := ∃ g c, e = .returned (.slice (some ⟨g, 0, none⟩) L.length c) ∧ w.heap.size ≤ g ∧ Own w' w.heap.size g L.length c L ∧ Below w.heap.size w w'
theorem jnR_none {w wx : World} {L : List Kl} (hr : L = []) (hb : Below w.heap.size w wx) : JnR w (wx.alloc (.cells #[] 26)) L (.returned (.slice (some ⟨wx.heap.size, 0, none⟩) 0 0)) := by
  subst hr
  exact ⟨wx.heap.size, 0, rfl, hb.size, own_lit0 wx hb.size, hb.alloc hb.size _⟩

set_option maxHeartbeats 800000 in
theorem sjoined_any (a : Option Addr) (cap : Nat) (l : List Kl) (w : World) (hl : l.length ≤ maxLen) (hk : Kls w a l) :
    Calls Try.prog 31 #[.slice a l.length cap] w fun e w' => JnR w w' (joinOf l) e := by
  have hk' := hide hk
  clear hk
  obtain ⟨L, hL⟩ : ∃ L, L = joinOf l := ⟨_, rfl⟩
  rw [← hL]
  by_cases h : TOk l
  · have h' := hide h
    have hd := hide (decide_eq_true h)
    have hJ := hide (show L = join l by rw [hL]; exact if_pos h)
    clear h hL
    go_enter Try.func31, Try.ntmps31
    go_wp2_with fail
    refine (strack_any a cap l true _ hl (unhide hk') (unhide hd)).mono ?_
    rintro e w1 ⟨rfl, hb⟩
    go_wp2_with fail
    refine (sjoin_any a cap l _ (by have := (unhide h').1; omega) (unhide h').2.1 ((unhide hk').below hb)).mono ?_
    rintro e w2 ⟨g, c, rfl, q, n, k⟩
    rw [← unhide hJ] at n ⊢
    have hz := hb.size
    have hF := hide (show JnR w w2 L (.returned (.slice (some ⟨g, 0, none⟩) L.length c)) from ⟨g, c, rfl, by omega, own_mono n (by omega), hb.trans (k.mono hz)⟩)
    clear n k q hb hz
    go_wp2
    go_ret
    exact unhide hF
  · have hd := hide (decide_eq_false h)
    have hJ := hide (show L = [] by rw [hL]; exact if_neg h)
    clear h hL
    go_enter Try.func31, Try.ntmps31
    go_wp2_with fail
    refine (strack_any a cap l false _ hl (unhide hk') (unhide hd)).mono ?_
    rintro e w1 ⟨rfl, hb⟩
    go_wp2
    go_ret
    exact jnR_none (unhide hJ) hb

set_option maxHeartbeats 800000 in
theorem ijoined_any (a : Option Addr) (cap : Nat) (l : List Kl) (w : World) (hl : l.length ≤ maxLen) (hk : Kls w a l) :
    Calls Try.prog 22 #[.slice a l.length cap] w fun e w' => JnR w w' (joinOf l) e := by
  have hk' := hide hk
  clear hk
  obtain ⟨L, hL⟩ : ∃ L, L = joinOf l := ⟨_, rfl⟩
  rw [← hL]
  by_cases h : TOk l
  · have h' := hide h
    have hJ := hide (show L = join l by rw [hL]; exact if_pos h)
    clear h hL
    go_enter Try.func22, Try.ntmps22
    go_wp2_with fail
    refine (opened_ok a cap l _ (unhide h') (unhide hk')).mono ?_
    rintro e w1 ⟨rfl, hb⟩
    have hA := hide (hb.alloc hb.size (.cells #[.slice a l.length cap, .int .i64 (clen l)] 63))
    have K1 := hide (((unhide hk').below hb).below ((Below.refl _ _).alloc (Nat.le_refl _) (.cells #[.slice a l.length cap, .int .i64 (clen l)] 63)))
    clear hb
    go_wp2_with fail
    refine (ijoin_any a cap l _ (by have := (unhide h').1; omega) (unhide h').2.1 (unhide K1)).mono ?_
    rintro e w2 ⟨g, c, rfl, q, n, k⟩
    rw [← unhide hJ] at n ⊢
    have hz := (unhide hA).size
    have hF := hide (show JnR w w2 L (.returned (.slice (some ⟨g, 0, none⟩) L.length c)) from ⟨g, c, rfl, Nat.le_trans hz q, own_mono n hz, (unhide hA).trans (k.mono hz)⟩)
    clear n k q hz hA K1
    go_wp2
    go_ret
    exact unhide hF
  · have h' := hide h
    have hJ := hide (show L = [] by rw [hL]; exact if_neg h)
    clear h hL
    go_enter Try.func22, Try.ntmps22
    go_wp2_with fail
    refine (opened_no a cap l _ hl (unhide h') (unhide hk')).mono ?_
    rintro e w1 ⟨rfl, hb⟩
    have hA := hide (hb.alloc hb.size (.cells #[.slice none 0 0, .int .i64 0] 63))
    clear hb
    go_wp2
    go_ret
    have := jnR_none (unhide hJ) (unhide hA)
    simpa using this

theorem seen_step {l : List Kl} {k : Nat} {c : Kl} (hx : l[k]? = some c) (i : Int) : seen (l.drop k) i = if i < c.2.2 then (if c.1 = 0 then (0, 0) else (c.1, c.2.1 + i)) else seen (l.drop (k + 1)) (i - c.2.2) := by
  have hk : k < l.length := (List.getElem?_eq_some_iff.1 hx).1
  have e : l.drop k = c :: l.drop (k + 1) := by
    rw [List.drop_eq_getElem_cons hk]
    have : l[k] = c := (List.getElem?_eq_some_iff.1 hx).2
    rw [this]
  rw [e]; rfl

set_option maxHeartbeats 1600000 in
theorem sframe_any (a : Option Addr) (cap : Nat) (l : List Kl) (t : Int) (w : World) (hl : l.length ≤ maxLen) (ht : t < 9223372036854775808) (hk : Kls w a l) :
    Calls Try.prog 34 #[.slice a l.length cap, .int .i64 t] w fun e w' => e = .returned (.tuple #[.int .i64 (frameAt l t).1, .int .i64 (frameAt l t).2]) ∧ Below w.heap.size w w' := by
  have hk' := hide hk
  clear hk
  obtain ⟨p, hp⟩ : ∃ p, p = (frameAt l t).1 := ⟨_, rfl⟩
  obtain ⟨q, hq⟩ : ∃ q, q = (frameAt l t).2 := ⟨_, rfl⟩
  rw [← hp, ← hq]
  by_cases h : TOk l
  · have hd := hide (decide_eq_true h)
    have h' := hide h
    by_cases h0 : t < 0
    · have hf : frameAt l t = (-1, -1) := frameAt_neg (by omega)
      rw [hf] at hp hq
      simp only at hp hq
      subst hp hq
      clear h hf
      go_enter Try.func34, Try.ntmps34
      go_wp2_with fail
      refine (strack_any a cap l true _ hl (unhide hk') (unhide hd)).mono ?_
      rintro e w1 ⟨rfl, hb⟩
      go_wp2
      exact bodyPost_ret (v := .tuple #[.int .i64 (-1), .int .i64 (-1)]) (by simp [results, Try.results34, go_sem]) rfl ⟨rfl, hb⟩
    · have h0' : decide (t < 0) = false := by simpa using h0
      have hf := hide (frameAt_yes h (show 0 ≤ t by omega))
      have hp' := hide hp
      have hq' := hide hq
      have hl3 := h.1
      clear h hp hq
      go_enter Try.func34, Try.ntmps34
      go_wp2_with fail
      refine (strack_any a cap l true _ hl (unhide hk') (unhide hd)).mono ?_
      rintro e w1 ⟨rfl, hb⟩
      have H1 := hide hb
      clear hb
      go_wp2
      go_loopw [1, 6] (fun s i wr => ∃ k : Nat, ∃ x : Int, k ≤ l.length ∧ i = .int .i64 k ∧ s = .int .i64 x ∧ 0 ≤ x ∧ x ≤ t ∧ Hid (seen l t = seen (l.drop k) x) ∧ Hid (Below w.heap.size w wr)) (fun _ i _ => l.length - (intOf i).toNat)
      case atStart => exact ⟨0, t, by omega, rfl, rfl, by omega, by omega, hide (by simp), H1⟩
      case round =>
        clear H1
        obtain ⟨k, x, hk, rfl, rfl, x0, x1, hs, hw⟩ := hrel
        by_cases hlt : k < l.length
        · obtain ⟨b, o, s, i, n, rfl, hx, c0, c1, c2⟩ := kls_at (unhide hk') (unhide hw) hlt
          have hcA := (unhide h').2.1 _ (List.mem_of_getElem? hx)
          obtain ⟨n0, n1, i0, i1, _⟩ := hcA
          simp only at n0 n1 i0 i1
          have hst := hide ((unhide hs).trans (seen_step hx x))
          have hwA := hide (laterB (unhide hw) (w1 := wr.alloc (.cells #[.int .i64 s, .int .i64 i, .int .i64 n] 26)) ((Below.refl _ _).alloc (Nat.le_refl _) _))
          clear hx hs
          by_cases hxn : x < n
          · by_cases hs0 : s = 0
            · subst hs0
              have hv : (frameAt l t) = (0, 0) := by rw [unhide hf, unhide hst]; simp [hxn]
              have hpp : p = 0 := by rw [unhide hp', hv]
              have hqq : q = 0 := by rw [unhide hq', hv]
              subst hpp hqq
              clear hv
              go_wp2
              exact bodyPost_ret (v := .tuple #[.int .i64 0, .int .i64 0]) (by simp [results, Try.results34, go_sem]) rfl ⟨rfl, unhide hwA⟩
            · have hs0' : (s == 0) = false := by simpa using hs0
              have hv : (frameAt l t) = (s, i + x) := by rw [unhide hf, unhide hst]; simp [hxn, hs0]
              have hpp : p = s := by rw [unhide hp', hv]
              have hqq : q = i + x := by rw [unhide hq', hv]
              subst hpp hqq
              clear hv hs0
              go_wp2_with fail
              go_region
              go_wp2
              exact bodyPost_ret (v := .tuple #[.int .i64 p, .int .i64 (i + x)]) (by simp [results, Try.results34, go_sem]) rfl ⟨rfl, (unhide hwA).drew⟩
          · have hxn' : decide (x < n) = false := by simpa using hxn
            have hs2 := hide (show seen l t = seen (l.drop (k + 1)) (x - n) by rw [unhide hst]; simp [hxn])
            clear hst hw
            go_wp2
            go_roundw
            case rel => exact ⟨k + 1, x - n, by omega, by go_num, rfl, by omega, by omega, hs2, hwA⟩
            case measure => simp [intOf]; omega
        · have hke : k = l.length := by omega
          have hv : (frameAt l t) = (-1, -1) := by rw [unhide hf, unhide hs, hke, List.drop_length]; rfl
          have hpp : p = -1 := by rw [unhide hp', hv]
          have hqq : q = -1 := by rw [unhide hq', hv]
          subst hpp hqq
          clear hv
          go_wp2
          exact bodyPost_ret (v := .tuple #[.int .i64 (-1), .int .i64 (-1)]) (by simp [results, Try.results34, go_sem]) rfl ⟨rfl, unhide hw⟩
  · have hd := hide (decide_eq_false h)
    have hf : frameAt l t = (-1, -1) := if_neg (fun k => h k.1)
    rw [hf] at hp hq
    simp only at hp hq
    subst hp hq
    clear h hf
    go_enter Try.func34, Try.ntmps34
    go_wp2_with fail
    refine (strack_any a cap l false _ hl (unhide hk') (unhide hd)).mono ?_
    rintro e w1 ⟨rfl, hb⟩
    go_wp2
    exact bodyPost_ret (v := .tuple #[.int .i64 (-1), .int .i64 (-1)]) (by simp [results, Try.results34, go_sem]) rfl ⟨rfl, hb⟩

end Go.Proofs.Ytnmahojdaodlgaa
