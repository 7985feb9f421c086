/-
  Contracts of what is a sample and of lists of samples, of the program; nothing that was there is written.
-/
import Derived.Test.YtmpbcmpjfcddoaaInd
namespace Go.Proofs.Ytmpbcmpjfcddoaa
open Go.RowKit
set_option linter.unusedVariables false
set_option linter.unusedSimpArgs false
namespace D

def okK (x : Kl) : Bool := (decide (0 ≤ x.1) && decide (x.1 ≤ 10000000)) && decide (Pix x.2)
def okL (l : List Kl) : Bool := decide (l.length ≤ 200) && l.all okK
def mrg (l m : List Kl) : List Kl := if okL l && okL m && decide (l.length + m.length ≤ 200) then srt (l ++ m) else []
set_option maxHeartbeats 400000 in
theorem fr_any (x : Int) (v : Bool) (w : World) (hv : (decide (0 ≤ x) && decide (x ≤ 10000000)) = v) :
    Calls Try.prog 44 #[.int .i64 x] w fun e w' => e = .returned (.bool v) ∧ w' = w := by
  subst hv
  by_cases h1 : 0 ≤ x
  · by_cases h2 : x ≤ 10000000
    · go_enter Try.func44, Try.ntmps44
      go_wp2
      go_ret
      exact ⟨ret_bool (by simp [h1, h2]), rfl⟩
    · have hd : decide (x ≤ 10000000) = false := by simpa using h2
      go_enter Try.func44, Try.ntmps44
      go_wp2
      go_ret
      exact ⟨ret_bool (by simp [h2]), rfl⟩
  · have hd : decide (0 ≤ x) = false := by simpa using h1
    go_enter Try.func44, Try.ntmps44
    go_wp2
    go_ret
    exact ⟨ret_bool (by simp [h1]), rfl⟩
set_option maxHeartbeats 800000 in
theorem pixel1 (t r g b a : Int) (w : World) : Calls Try.prog 79 #[ag5 t r g b a] w fun e w' => e = .returned (ag4 r g b a) ∧ Below w.heap.size w w' := by
  go_enter Try.func79, Try.ntmps79
  go_wp2
  exact bodyPost_ret (v := ag4 r g b a) (by simp [results, Try.results79, go_sem]) rfl ⟨rfl, (((Below.refl _ _).alloc (Nat.le_refl _) _).alloc (by simp) _)⟩
set_option maxHeartbeats 1600000 in
theorem iel_any (t r g b a : Int) (v : Bool) (w : World) (hv : okK (t, r, g, b, a) = v) : Calls Try.prog 32 #[.iface 32 (ag5 t r g b a)] w fun e w' => e = .returned (.bool v) ∧ Below w.heap.size w w' := by
  unfold okK at hv
  simp only at hv
  generalize hA : (decide (0 ≤ t) && decide (t ≤ 10000000)) = A at hv
  generalize hP : decide (Pix (r, g, b, a)) = P at hv
  subst hv
  have hA' := hide hA
  have hP' := hide hP
  clear hA hP
  cases A
  · go_enter Try.func32, Try.ntmps32
    go_wp2_with fail
    refine (depth_any t r g b a _).mono ?_
    rintro e w1 ⟨rfl, hb⟩
    have h1 := hide hb
    clear hb
    go_wp2_with fail
    refine (fr_any t _ _ (unhide hA')).mono ?_
    rintro e w2 ⟨rfl, hw⟩
    subst hw
    go_wp2
    go_ret
    exact ⟨ret_bool (by simp), unhide h1⟩
  · go_enter Try.func32, Try.ntmps32
    go_wp2_with fail
    refine (depth_any t r g b a _).mono ?_
    rintro e w1 ⟨rfl, hb⟩
    have h1 := hide hb
    clear hb
    go_wp2_with fail
    refine (fr_any t _ _ (unhide hA')).mono ?_
    rintro e w2 ⟨rfl, hw⟩
    subst hw
    go_wp2_with fail
    refine (pixel1 t r g b a _).mono ?_
    rintro e w3 ⟨rfl, hb⟩
    have h2 := hide (laterB (unhide h1) hb)
    clear hb h1
    go_wp2_with fail
    refine (ipx_any r g b a _ _ (unhide hP')).mono ?_
    rintro e w4 ⟨rfl, hb⟩
    have h3 := hide (laterB (unhide h2) hb)
    clear hb h2
    go_wp2
    go_ret
    exact ⟨ret_bool (by simp), unhide h3⟩
theorem all_take {l : List Kl} {k : Nat} {x : Kl} {f : Kl → Bool} (h : (l.take k).all f = true) (hx : l[k]? = some x) (hf : f x = true) : (l.take (k + 1)).all f = true := by
  rw [take_snocK hx, List.all_append, h]; simp [hf]
theorem all_no {l : List Kl} {k : Nat} {x : Kl} {f : Kl → Bool} (hx : l[k]? = some x) (hf : f x = false) : l.all f = false := by
  rw [List.all_eq_false]
  exact ⟨x, List.mem_of_getElem? hx, by simp [hf]⟩
set_option maxHeartbeats 1600000 in
theorem ars_any (B gg n cap : Nat) (l : List Kl) (v : Bool) (w : World) (hO : Own w B gg n cap l) (hn : n ≤ 100000000) (hv : okL l = v) : Calls Try.prog 20 #[.slice (some ⟨gg, 0, none⟩) n cap] w fun e w' => e = .returned (.bool v) ∧ Below w.heap.size w w' := by
  have hLn : l.length = n := own_len hO
  subst hv
  have hv' : Hid (okL l = (decide (n ≤ 200) && l.all okK)) := hide (by unfold okL; rw [hLn])
  have hO' := hide hO
  have hL' := hide hLn
  clear hO hLn
  by_cases h200 : n ≤ 200
  rotate_left
  · have td : decide ((200 : Int) < n) = true := by simp; omega
    have td' : decide (200 < n) = true := by simp; omega
    go_enter Try.func20, Try.ntmps20
    go_wp2
    go_ret
    exact ⟨ret_bool (by rw [unhide hv']; simp [h200]), Below.refl _ _⟩
  have td : decide ((200 : Int) < n) = false := by simp; omega
  have td' : decide (200 < n) = false := by simp; omega
  have hb0 : Hid (Below w.heap.size w w) := hide (Below.refl _ _)
  go_enter Try.func20, Try.ntmps20
  go_wp2
  go_loopw [10] (fun s wr => ∃ k : Nat, k ≤ n ∧ s = .int .i64 k ∧ Hid ((l.take k).all okK = true) ∧ Hid (Below w.heap.size w wr)) (fun s _ => n - (intOf s).toNat)
  case atStart => exact ⟨0, by omega, rfl, hide (by simp), hb0⟩
  case round =>
    clear hb0
    obtain ⟨k, hk, rfl, hA, hB⟩ := hrel
    by_cases hlt : k < n
    rotate_left
    · have hke : k = n := by omega
      have hfin : Hid (okL l = true) := hide (by
        have h1 := unhide hA
        rw [List.take_of_length_le (by rw [unhide hL']; omega)] at h1
        rw [unhide hv', h1]; simp; omega)
      have tk : decide ((k : Int) < n) = false := by simp; omega
      have tk' : decide (k < n) = false := by simp; omega
      go_wp2
      go_ret
      exact ⟨ret_bool (by rw [unhide hfin]), unhide hB⟩
    have tk : decide ((k : Int) < n) = true := by simp; omega
    have tk' : decide (k < n) = true := by simp; omega
    obtain ⟨⟨x0, x1, x2, x3, x4⟩, hx⟩ : ∃ x, l[k]? = some x := ⟨l[k]'(by have := unhide hL'; omega), List.getElem?_eq_getElem (by have := unhide hL'; omega)⟩
    obtain ⟨c0, c1, c2, c3, c4⟩ := own_cells hx (ownsRow_below (unhide hO') (unhide hB))
    have hx' := hide hx
    clear hx
    have bk : (k : Int) < n := by omega
    have bk0 : (0 : Int) ≤ k := by omega
    generalize hq : okK (x0, x1, x2, x3, x4) = q
    have hq' := hide hq
    clear hq
    go_wp2_with fail
    refine (iel_any x0 x1 x2 x3 x4 q _ (unhide hq')).mono ?_
    rintro e w1 ⟨rfl, hb⟩
    have hB1 : Hid (Below w.heap.size w w1) := hide (laterB ((unhide hB).alloc (unhide hB).size _) hb)
    clear hb hB c0 c1 c2 c3 c4
    cases q
    · have hfin : Hid (okL l = false) := hide (by rw [unhide hv', all_no (unhide hx') (unhide hq')]; simp)
      go_wp2
      go_ret
      exact ⟨ret_bool (by rw [unhide hfin]), unhide hB1⟩
    · have hA1 := hide (all_take (unhide hA) (unhide hx') (unhide hq'))
      clear hA
      go_wp2
      go_roundw
      case rel => exact ⟨k + 1, by omega, by go_num, hA1, hB1⟩
      case measure => simp [intOf]; omega

end D
end Go.Proofs.Ytmpbcmpjfcddoaa
