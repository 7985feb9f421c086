/-
  Contracts of the functions, the model's and the program's, that tell whether something is a clip or a track, and how long a track is; nothing that was there is written.
  Contracts of the functions, the model's and the program's, that tell whether a list is a track, and how long it is; nothing that was there is written.
-/
import Derived.Test.YtfhbmfndjbdhcaaGreatDoorCopy
namespace Go.Proofs.YtfhbmfndjbdhcaaGreatDoor
open Go.RowKit
set_option linter.unusedVariables false
set_option linter.unusedSimpArgs false

set_option maxHeartbeats 400000 in
theorem in_any (x lo hi : Int) (v : Bool) (w : World) (hv : (decide (lo ≤ x) && decide (x ≤ hi)) = v) :
    Calls Tryz.prog 44 #[.int .i64 x, .int .i64 lo, .int .i64 hi] w fun e w' => e = .returned (.bool v) ∧ w' = w := by
  subst hv
  by_cases h1 : lo ≤ x
  · by_cases h2 : x ≤ hi
    · go_enter Tryz.func44, Tryz.ntmps44
      go_wp2
      go_ret
      exact ⟨ret_bool (by simp [h1, h2]), rfl⟩
    · go_enter Tryz.func44, Tryz.ntmps44
      go_wp2
      go_ret
      exact ⟨ret_bool (by simp [h2]), rfl⟩
  · have hd : decide (lo ≤ x) = false := by simpa using h1
    go_enter Tryz.func44, Tryz.ntmps44
    go_wp2
    go_ret
    exact ⟨ret_bool (by simp), rfl⟩
set_option maxHeartbeats 400000 in
theorem src_any (x : Int) (v : Bool) (w : World) (hv : (decide (1 ≤ x) && decide (x ≤ 500)) = v) :
    Calls Tryz.prog 61 #[.int .i64 x] w fun e w' => e = .returned (.bool v) ∧ w' = w := by
  go_enter Tryz.func61, Tryz.ntmps61
  go_wp2_with fail
  refine (in_any x 1 500 v _ hv).mono ?_
  rintro e w1 ⟨rfl, rfl⟩
  go_wp2
  go_ret
  exact ⟨rfl, rfl⟩
theorem cok_dec (s i n : Int) : decide (COk (s, i, n)) = (decide (1 ≤ n) && decide (n ≤ 10000000) && (decide (0 ≤ i) && decide (i + n ≤ 10000000)) && ((decide (1 ≤ s) && decide (s ≤ 500)) || (decide (s = 0) && decide (i = 0)))) := by
  rw [Bool.eq_iff_iff, decide_eq_true_iff]
  simp [COk, and_assoc]

set_option maxHeartbeats 1600000 in
theorem sclip_any (s i n : Int) (v : Bool) (w : World) (hv : decide (COk (s, i, n)) = v) :
    Calls Tryz.prog 46 #[.agg #[.int .i64 s, .int .i64 i, .int .i64 n]] w fun e w' => e = .returned (.bool v) ∧ Below w.heap.size w w' := by
  rw [cok_dec] at hv
  subst hv
  by_cases hn : 1 ≤ n ∧ n ≤ 10000000
  · by_cases hi : 0 ≤ i ∧ i ≤ 10000000
    · obtain ⟨n0, n1⟩ := hn
      obtain ⟨i0, i1⟩ := hi
      by_cases hs : i + n ≤ 10000000
      · have hs' : decide (10000000 < i + n) = false := by simp; omega
        by_cases h1 : 1 ≤ s ∧ s ≤ 500
        · go_enter Tryz.func46, Tryz.ntmps46
          go_wp2_with fail
          refine (in_any n 1 10000000 true _ (by simp; omega)).mono ?_
          rintro e w1 ⟨rfl, rfl⟩
          go_wp2_with fail
          refine (in_any i 0 10000000 true _ (by simp; omega)).mono ?_
          rintro e w1 ⟨rfl, rfl⟩
          go_wp2_with fail
          refine (src_any s true _ (by simp; omega)).mono ?_
          rintro e w1 ⟨rfl, rfl⟩
          go_wp2
          go_ret
          exact ⟨ret_bool (by simp; omega), (Below.refl _ _).alloc (Nat.le_refl _) _⟩
        · by_cases h0 : s = 0
          · by_cases hi0 : i = 0
            · subst h0 hi0
              go_enter Tryz.func46, Tryz.ntmps46
              go_wp2_with fail
              refine (in_any n 1 10000000 true _ (by simp; omega)).mono ?_
              rintro e w1 ⟨rfl, rfl⟩
              go_wp2_with fail
              refine (in_any 0 0 10000000 true _ (by simp)).mono ?_
              rintro e w1 ⟨rfl, rfl⟩
              go_wp2_with fail
              refine (src_any 0 false _ (by simp)).mono ?_
              rintro e w1 ⟨rfl, rfl⟩
              go_wp2
              go_ret
              exact ⟨ret_bool (by simp; omega), (Below.refl _ _).alloc (Nat.le_refl _) _⟩
            · subst h0
              have hi0' : decide (i = 0) = false := by simpa using hi0
              go_enter Tryz.func46, Tryz.ntmps46
              go_wp2_with fail
              refine (in_any n 1 10000000 true _ (by simp; omega)).mono ?_
              rintro e w1 ⟨rfl, rfl⟩
              go_wp2_with fail
              refine (in_any i 0 10000000 true _ (by simp; omega)).mono ?_
              rintro e w1 ⟨rfl, rfl⟩
              go_wp2_with fail
              refine (src_any 0 false _ (by simp)).mono ?_
              rintro e w1 ⟨rfl, rfl⟩
              go_wp2
              go_ret
              exact ⟨ret_bool (by simp [hi0]), (Below.refl _ _).alloc (Nat.le_refl _) _⟩
          · have h0' : decide (s = 0) = false := by simpa using h0
            have h1' : (decide (1 ≤ s) && decide (s ≤ 500)) = false := by simp; omega
            go_enter Tryz.func46, Tryz.ntmps46
            go_wp2_with fail
            refine (in_any n 1 10000000 true _ (by simp; omega)).mono ?_
            rintro e w1 ⟨rfl, rfl⟩
            go_wp2_with fail
            refine (in_any i 0 10000000 true _ (by simp; omega)).mono ?_
            rintro e w1 ⟨rfl, rfl⟩
            go_wp2_with fail
            refine (src_any s false _ h1').mono ?_
            rintro e w1 ⟨rfl, rfl⟩
            go_wp2
            go_ret
            exact ⟨ret_bool (by simp [h1', h0']), (Below.refl _ _).alloc (Nat.le_refl _) _⟩
      · have hs' : decide (10000000 < i + n) = true := by simp; omega
        have hs2 : decide (i + n ≤ 10000000) = false := by simp; omega
        go_enter Tryz.func46, Tryz.ntmps46
        go_wp2_with fail
        refine (in_any n 1 10000000 true _ (by simp; omega)).mono ?_
        rintro e w1 ⟨rfl, rfl⟩
        go_wp2_with fail
        refine (in_any i 0 10000000 true _ (by simp; omega)).mono ?_
        rintro e w1 ⟨rfl, rfl⟩
        go_wp2
        go_ret
        exact ⟨ret_bool (by simp [hs2]), (Below.refl _ _).alloc (Nat.le_refl _) _⟩
    · have hi' : (decide (0 ≤ i) && decide (i ≤ 10000000)) = false := by simp; omega
      have hi2 : decide (0 ≤ i) = false ∨ decide (i + n ≤ 10000000) = false := by simp; omega
      go_enter Tryz.func46, Tryz.ntmps46
      go_wp2_with fail
      refine (in_any n 1 10000000 true _ (by simp; omega)).mono ?_
      rintro e w1 ⟨rfl, rfl⟩
      go_wp2_with fail
      refine (in_any i 0 10000000 false _ hi').mono ?_
      rintro e w1 ⟨rfl, rfl⟩
      go_wp2
      go_ret
      refine ⟨ret_bool ?_, (Below.refl _ _).alloc (Nat.le_refl _) _⟩
      rcases hi2 with h | h <;> simp [h]
  · have hn' : (decide (1 ≤ n) && decide (n ≤ 10000000)) = false := by simp; omega
    go_enter Tryz.func46, Tryz.ntmps46
    go_wp2_with fail
    refine (in_any n 1 10000000 false _ hn').mono ?_
    rintro e w1 ⟨rfl, rfl⟩
    go_wp2
    go_ret
    exact ⟨ret_bool (by simp [hn']), (Below.refl _ _).alloc (Nat.le_refl _) _⟩

set_option maxHeartbeats 400000 in
theorem gap_any (s i n : Int) (v : Bool) (w : World) (hv : decide (s = 0) = v) :
    Calls Tryz.prog 63 #[.agg #[.int .i64 s, .int .i64 i, .int .i64 n]] w fun e w' => e = .returned (.bool v) ∧ Below w.heap.size w w' := by
  subst hv
  go_enter Tryz.func63, Tryz.ntmps63
  go_wp2
  go_ret
  exact ⟨rfl, (Below.refl _ _).alloc (Nat.le_refl _) _⟩
set_option maxHeartbeats 400000 in
theorem isrc_any (x : Int) (v : Bool) (w : World) (hv : (decide (1 ≤ x) && decide (x ≤ 500)) = v) :
    Calls Tryz.prog 64 #[.int .i64 x] w fun e w' => e = .returned (.bool v) ∧ w' = w := by
  subst hv
  by_cases h1 : 1 ≤ x
  · by_cases h2 : x ≤ 500
    · go_enter Tryz.func64, Tryz.ntmps64
      go_wp2
      go_ret
      exact ⟨ret_bool (by simp [h1, h2]), rfl⟩
    · go_enter Tryz.func64, Tryz.ntmps64
      go_wp2
      go_ret
      exact ⟨ret_bool (by simp [h2]), rfl⟩
  · have hd : decide (1 ≤ x) = false := by simpa using h1
    go_enter Tryz.func64, Tryz.ntmps64
    go_wp2
    go_ret
    exact ⟨ret_bool (by simp), rfl⟩

set_option maxHeartbeats 1600000 in
theorem iclip_any (s i n : Int) (v : Bool) (w : World) (hv : decide (COk (s, i, n)) = v) :
    Calls Tryz.prog 36 #[.agg #[.int .i64 s, .int .i64 i, .int .i64 n]] w fun e w' => e = .returned (.bool v) ∧ Below w.heap.size w w' := by
  rw [cok_dec] at hv
  subst hv
  by_cases n0 : n < 1
  · have hn' : decide (1 ≤ n) = false := by simp; omega
    go_enter Tryz.func36, Tryz.ntmps36
    go_wp2
    go_ret
    exact ⟨ret_bool (by simp [hn']), (Below.refl _ _).alloc (Nat.le_refl _) _⟩
  have n0' : decide (n < 1) = false := by simpa using n0
  by_cases n1 : 10000000 < n
  · have hn' : decide (n ≤ 10000000) = false := by simp; omega
    go_enter Tryz.func36, Tryz.ntmps36
    go_wp2
    go_ret
    exact ⟨ret_bool (by simp [hn']), (Below.refl _ _).alloc (Nat.le_refl _) _⟩
  have n1' : decide (10000000 < n) = false := by simpa using n1
  by_cases h0 : s = 0
  · subst h0
    go_enter Tryz.func36, Tryz.ntmps36
    go_wp2_with fail
    refine (gap_any 0 i n true _ rfl).mono ?_
    rintro e w1 ⟨rfl, hb⟩
    obtain ⟨B1, B2⟩ := bcell hb
    go_wp2
    go_ret
    refine ⟨ret_bool ?_, ((Below.refl _ _).alloc (Nat.le_refl _) _).trans (hb.mono (by simp))⟩
    by_cases hi : i = 0
    · subst hi; simp; omega
    · simp [hi]
  have h0' : decide (s = 0) = false := by simpa using h0
  by_cases h1 : 1 ≤ s ∧ s ≤ 500
  · by_cases i0 : 0 ≤ i
    · go_enter Tryz.func36, Tryz.ntmps36
      go_wp2_with fail
      refine (gap_any s i n false _ h0').mono ?_
      rintro e w1 ⟨rfl, hb⟩
      obtain ⟨B1, B2⟩ := bcell hb
      go_wp2_with fail
      refine (isrc_any s true _ (by simp; omega)).mono ?_
      rintro e w1 ⟨rfl, rfl⟩
      go_wp2
      go_ret
      refine ⟨ret_bool ?_, ((Below.refl _ _).alloc (Nat.le_refl _) _).trans (hb.mono (by simp))⟩
      by_cases hs : i + n ≤ 10000000
      · have : i ≤ 10000000 - n := by omega
        simp [hs, this]; omega
      · have : ¬ i ≤ 10000000 - n := by omega
        simp [hs, this]
    · have i0' : decide (0 ≤ i) = false := by simpa using i0
      go_enter Tryz.func36, Tryz.ntmps36
      go_wp2_with fail
      refine (gap_any s i n false _ h0').mono ?_
      rintro e w1 ⟨rfl, hb⟩
      obtain ⟨B1, B2⟩ := bcell hb
      go_wp2_with fail
      refine (isrc_any s true _ (by simp; omega)).mono ?_
      rintro e w1 ⟨rfl, rfl⟩
      go_wp2
      go_ret
      exact ⟨ret_bool (by simp [i0']), ((Below.refl _ _).alloc (Nat.le_refl _) _).trans (hb.mono (by simp))⟩
  · have h1' : (decide (1 ≤ s) && decide (s ≤ 500)) = false := by simp; omega
    go_enter Tryz.func36, Tryz.ntmps36
    go_wp2_with fail
    refine (gap_any s i n false _ h0').mono ?_
    rintro e w1 ⟨rfl, hb⟩
    obtain ⟨B1, B2⟩ := bcell hb
    go_wp2_with fail
    refine (isrc_any s false _ h1').mono ?_
    rintro e w1 ⟨rfl, rfl⟩
    go_wp2
    go_ret
    exact ⟨ret_bool (by simp [h1', h0']), ((Below.refl _ _).alloc (Nat.le_refl _) _).trans (hb.mono (by simp))⟩

end Go.Proofs.YtfhbmfndjbdhcaaGreatDoor

namespace Go.Proofs.YtfhbmfndjbdhcaaGreatDoor
open Go.RowKit
set_option linter.unusedVariables false
set_option linter.unusedSimpArgs false

theorem kls_at {w wr : World} {a : Option Addr} {l : List Kl} {k : Nat} (h : Kls w a l) (hb : Below w.heap.size w wr) (hlt : k < l.length) :
    ∃ b o s i n, a = some ⟨b, o, none⟩ ∧ l[k]? = some (s, i, n) ∧ wr.cell? ⟨b, o + k * 3, none⟩ = some (.int .i64 s) ∧ wr.cell? ⟨b, o + k * 3 + 1, none⟩ = some (.int .i64 i) ∧ wr.cell? ⟨b, o + k * 3 + 2, none⟩ = some (.int .i64 n) := by
  obtain ⟨b, o, e, h1, c0, c1, c2⟩ := h k l[k] (List.getElem?_eq_getElem hlt)
  have C := fun o => (bcell hb).1 b o h1
  exact ⟨b, o, l[k].1, l[k].2.1, l[k].2.2, e, List.getElem?_eq_getElem hlt, (C _).trans c0, (C _).trans c1, (C _).trans c2⟩
theorem aok_take {l : List Kl} {k : Nat} {c : Kl} (h : AOk (l.take k)) (hx : l[k]? = some c) (hc : COk c) : AOk (l.take (k + 1)) := by
  rw [take_snocK hx]; exact h.append (AOk.cons hc AOk.nil)
theorem take_bd {l : List Kl} {k : Nat} (h : AOk (l.take k)) (hk : k ≤ l.length) : 0 ≤ clen (l.take k) ∧ clen (l.take k) ≤ k * 10000000 := by
  refine ⟨clen_nonneg h, ?_⟩
  have := clen_le h
  rw [List.length_take, Nat.min_eq_left hk] at this
  exact this
theorem not_tok {l : List Kl} {k : Nat} {c : Kl} (hx : l[k]? = some c) (hc : ¬ COk c) : ¬ TOk l := fun h => hc (h.2.1 c (List.mem_of_getElem? hx))

set_option maxHeartbeats 1600000 in
theorem strack_any (a : Option Addr) (cap : Nat) (l : List Kl) (v : Bool) (w : World) (hl : l.length ≤ maxLen) (hk : Kls w a l) (hv : decide (TOk l) = v) :
    Calls Tryz.prog 25 #[.slice a l.length cap] w fun e w' => e = .returned (.bool v) ∧ Below w.heap.size w w' := by
  have hk' := hide hk
  clear hk
  unfold maxLen at hl
  by_cases hbig : 300 < l.length
  · have hv' : v = false := by rw [← hv]; exact decide_eq_false (fun h => by have := h.1; omega)
    subst hv'
    have hbig' : decide ((300 : Int) < l.length) = true := by simp; omega
    clear hv
    go_enter Tryz.func25, Tryz.ntmps25
    go_wp2
    go_ret
    exact ⟨rfl, Below.refl _ _⟩
  have hbig' : decide ((300 : Int) < l.length) = false := by simp; omega
  have hv' := hide hv
  clear hv
  go_enter Tryz.func25, Tryz.ntmps25
  go_wp2
  go_loopw [3, 4] (fun s t wr => ∃ k : Nat, k ≤ l.length ∧ t = .int .i64 k ∧ s = .int .i64 (clen (l.take k)) ∧ Hid (AOk (l.take k)) ∧ Hid (Below w.heap.size w wr)) (fun _ t _ => l.length - (intOf t).toNat)
  case atStart => exact ⟨0, by omega, rfl, by simp [clen], hide (by simp; exact AOk.nil), hide (Below.refl _ _)⟩
  case round =>
    obtain ⟨k, hk, rfl, rfl, hA, hw⟩ := hrel
    obtain ⟨b0, b1⟩ := take_bd (unhide hA) hk
    by_cases hlt : k < l.length
    · obtain ⟨b, o, s, i, n, rfl, hx, c0, c1, c2⟩ := kls_at (unhide hk') (unhide hw) hlt
      have hx' := hide hx
      have hcl := hide (clen_take hx)
      clear hx
      by_cases hc : COk (s, i, n)
      · have n0 := hc.1
        have n1 := hc.2.1
        have hc' := hide hc
        clear hc
        simp only at n0 n1
        go_wp2_with fail
        refine (sclip_any s i n true _ (by simpa using unhide hc')).mono ?_
        rintro e w1 ⟨rfl, hb⟩
        have c2' := cell_later hb c2
        have hw1 := hide (laterB (unhide hw) hb)
        clear hb hw c0 c1 c2
        go_wp2
        go_roundw
        case rel => exact ⟨k + 1, by omega, by go_num, by rw [unhide hcl], hide (aok_take (unhide hA) (unhide hx') (unhide hc')), hw1⟩
        case measure => simp [intOf]; omega
      · have hv2 : v = false := by rw [← unhide hv']; exact decide_eq_false (not_tok (unhide hx') hc)
        subst hv2
        have hc' : decide (COk (s, i, n)) = false := decide_eq_false hc
        have hc2 := hide hc'
        clear hc hc'
        go_wp2_with fail
        refine (sclip_any s i n false _ (unhide hc2)).mono ?_
        rintro e w1 ⟨rfl, hb⟩
        go_wp2
        go_ret
        exact ⟨rfl, laterB (unhide hw) hb⟩
    · have hke : k = l.length := by omega
      have hv2 : v = decide (clen (l.take k) ≤ 10000000) := by
        rw [← unhide hv', hke, List.take_length]
        have := unhide hA
        rw [hke, List.take_length] at this
        simp [TOk, this]; omega
      subst hv2
      clear hv'
      go_wp2
      go_ret
      exact ⟨ret_bool (by rw [hke, List.take_length]), unhide hw⟩

def lenOf (l : List Kl) : Int := if TOk l then clen l else -1
end Go.Proofs.YtfhbmfndjbdhcaaGreatDoor
