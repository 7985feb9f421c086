/-
  Tasks in memory: lists that are read, owned lists; contracts of the law's functions that weigh, copy and hold lists of tasks against each other, and write marks into them.
-/
import Derived.Test.YtmdkbmnomeampaaCopyL
namespace Go.Proofs.Ytmdkbmnomeampaa
open Go.RowKit
set_option linter.unusedVariables false
set_option linter.unusedSimpArgs false

/-- a task as a value: kind, value, needs, cost -/
abbrev Tv := Int × Int × List Int × Int
/-- the tasks ts behind the address a -/
def Tks (w : World) (a : Option Addr) (ts : List Tv) : Prop :=
  ∀ j t, ts[j]? = some t → ∃ b o p c, a = some ⟨b, o, none⟩ ∧ b < w.heap.size ∧ w.cell? ⟨b, o + j * 4, none⟩ = some (.int .i64 t.1) ∧ w.cell? ⟨b, o + j * 4 + 1, none⟩ = some (.int .i64 t.2.1) ∧ w.cell? ⟨b, o + j * 4 + 2, none⟩ = some (.slice p t.2.2.1.length c) ∧ w.cell? ⟨b, o + j * 4 + 3, none⟩ = some (.int .i64 t.2.2.2) ∧ Ins w p t.2.2.1 ∧ t.2.2.1.length ≤ maxLen
theorem Tks.nil {w : World} {a : Option Addr} : Tks w a [] := by intro j z hz; simp at hz
theorem Tks.below {w w' : World} {a : Option Addr} {ts : List Tv} (h : Tks w a ts) (s : Below w.heap.size w w') : Tks w' a ts := by
  intro j t ht
  obtain ⟨b, o, p, c, e, h1, c0, c1, c2, c3, h3, h4⟩ := h j t ht
  have C := fun i => (bcell s).1 b i h1
  exact ⟨b, o, p, c, e, Nat.lt_of_lt_of_le h1 s.size, (C _).trans c0, (C _).trans c1, (C _).trans c2, (C _).trans c3, h3.below s, h4⟩
theorem tks_at {w wr : World} {a : Option Addr} {ts : List Tv} {k : Nat} (h : Tks w a ts) (hw : Below w.heap.size w wr) (hk : k < ts.length) : ∃ b o p c t, a = some ⟨b, o, none⟩ ∧ ts[k]? = some t ∧ b < w.heap.size ∧ wr.cell? ⟨b, o + k * 4, none⟩ = some (.int .i64 t.1) ∧ wr.cell? ⟨b, o + k * 4 + 1, none⟩ = some (.int .i64 t.2.1) ∧ wr.cell? ⟨b, o + k * 4 + 2, none⟩ = some (.slice p t.2.2.1.length c) ∧ wr.cell? ⟨b, o + k * 4 + 3, none⟩ = some (.int .i64 t.2.2.2) ∧ Ins wr p t.2.2.1 ∧ t.2.2.1.length ≤ maxLen := by
  obtain ⟨b, o, p, c, e, h1, c0, c1, c2, c3, h3, h4⟩ := h k ts[k] (List.getElem?_eq_getElem hk)
  have C := fun i => (bcell hw).1 b i h1
  exact ⟨b, o, p, c, _, e, List.getElem?_eq_getElem hk, h1, (C _).trans c0, (C _).trans c1, (C _).trans c2, (C _).trans c3, h3.below hw, h4⟩
def tot (ts : List Tv) : Nat := (ts.map fun t => t.2.2.1.length).sum
theorem tot_snoc {ts : List Tv} {k : Nat} {t : Tv} (h : ts[k]? = some t) : tot (ts.take (k + 1)) = tot (ts.take k) + t.2.2.1.length := by
  rw [List.take_add_one, h]; simp [tot]
theorem tot_append (a b : List Tv) : tot (a ++ b) = tot a + tot b := by simp [tot]
theorem tot_take (ts : List Tv) (k : Nat) : tot (ts.take k) ≤ tot ts := by
  have e : tot ts = tot (ts.take k) + tot (ts.drop k) := by rw [← tot_append, List.take_append_drop]
  omega
theorem tot_mem {ts : List Tv} {t : Tv} (h : t ∈ ts) : t.2.2.1.length ≤ tot ts := by
  obtain ⟨k, hk⟩ := List.getElem?_of_mem h
  have h1 := tot_snoc hk
  have h2 := tot_take ts (k + 1)
  omega
abbrev agT (k v : Int) (p : Option Addr) (n c : Nat) (d : Int) : Value := .agg #[.int .i64 k, .int .i64 v, .slice p n c, .int .i64 d]

set_option maxHeartbeats 400000 in
theorem szi_any (a : Option Addr) (len cap : Nat) (q : Int) (w : World) (hl : len ≤ maxLen) (q0 : 0 ≤ q) (q1 : q ≤ 1048576) :
    Calls Try.prog 73 #[.slice a len cap, .int .i64 q] w fun e w' => ∃ r, e = .returned (.int .i64 r) ∧ ((r = -1 ∧ q < len) ∨ (0 ≤ r ∧ r = q - len)) ∧ w' = w := by
  unfold maxLen at hl
  by_cases h : q - len < 0
  · go_enter Try.func73, Try.ntmps73
    go_wp2
    go_ret
    exact ⟨_, rfl, by omega, rfl⟩
  · go_enter Try.func73, Try.ntmps73
    go_wp2
    go_ret
    exact ⟨_, rfl, by omega, rfl⟩

set_option maxHeartbeats 400000 in
theorem szt_any (k v d : Int) (a : Option Addr) (len cap : Nat) (q : Int) (w : World) (hl : len ≤ maxLen) (q0 : 0 ≤ q) (q1 : q ≤ 1048576) :
    Calls Try.prog 50 #[agT k v a len cap d, .int .i64 q] w fun e w' => ∃ r, e = .returned (.int .i64 r) ∧ ((r = -1 ∧ q < len) ∨ (0 ≤ r ∧ r = q - len)) ∧ Below w.heap.size w w' := by
  have hl' := hide hl
  clear hl
  go_enter Try.func50, Try.ntmps50
  go_wp2_with fail
  refine (szi_any a len cap q _ (unhide hl') q0 q1).mono ?_
  rintro e w1 ⟨r, rfl, hr, rfl⟩
  rcases hr with ⟨rfl, hr⟩ | ⟨hr0, hr⟩
  · go_wp2
    go_ret
    exact ⟨_, rfl, Or.inl ⟨rfl, hr⟩, (Below.refl _ _).alloc (Nat.le_refl _) _⟩
  · have hn : ¬ r < 0 := by omega
    have hr' := hide hr
    clear hr
    go_wp2
    go_ret
    exact ⟨_, rfl, Or.inr ⟨hr0, unhide hr'⟩, (Below.refl _ _).alloc (Nat.le_refl _) _⟩

set_option maxHeartbeats 1600000 in
theorem szts_any (a : Option Addr) (cap : Nat) (ts : List Tv) (w : World) (hl : ts.length ≤ maxLen) (hk : Tks w a ts) (N : Int) (N0 : 0 ≤ N) (N1 : N ≤ 1048576) :
    Calls Try.prog 17 #[.slice a ts.length cap, .int .i64 N] w fun e w' => ∃ r, e = .returned (.int .i64 r) ∧ (r = -1 ∨ (0 ≤ r ∧ r = N - ts.length - tot ts)) ∧ Below w.heap.size w w' := by
  unfold maxLen at hl
  have hk' := hide hk
  clear hk
  by_cases hbig : N - ts.length < 0
  · go_enter Try.func17, Try.ntmps17
    go_wp2
    go_ret
    exact ⟨_, rfl, Or.inl rfl, Below.refl _ _⟩
  · have hbd : decide (N - ts.length < 0) = false := by simpa using hbig
    go_enter Try.func17, Try.ntmps17
    go_wp2
    go_loopw [1, 5] (fun s t wr => ∃ (k : Nat) (q : Int), k ≤ ts.length ∧ t = .int .i64 k ∧ s = .int .i64 q ∧ 0 ≤ q ∧ q ≤ 1048576 ∧ Hid (q = N - ts.length - tot (ts.take k)) ∧ Hid (Below w.heap.size w wr)) (fun _ t _ => ts.length - (intOf t).toNat)
    case atStart => exact ⟨0, N - ts.length, by omega, rfl, rfl, by omega, by omega, hide (by simp [tot]), hide (Below.refl _ _)⟩
    case round =>
      obtain ⟨k, q, hkl, rfl, rfl, q0, q1, hq, hB⟩ := hrel
      by_cases hlt : k < ts.length
      · obtain ⟨b, o, p, c, t, rfl, hx, hb, c0, c1, c2, c3, hK, hm⟩ := tks_at (unhide hk') (unhide hB) hlt
        have hsn := hide (tot_snoc hx)
        have hm' := hide hm
        clear hx hK hm
        go_wp2_with fail
        refine (szt_any t.1 t.2.1 t.2.2.2 p t.2.2.1.length c q _ (unhide hm') q0 q1).mono ?_
        rintro e w1 ⟨r, rfl, hr, hw1⟩
        have hB1 := hide (laterB (unhide hB) hw1)
        clear hw1
        rcases hr with ⟨rfl, hr⟩ | ⟨hr0, hr⟩
        · go_wp2
          go_ret
          exact ⟨_, rfl, Or.inl rfl, unhide hB1⟩
        · have hr1 : decide (r < 0) = false := by simp; omega
          have hr' := hide hr
          have hrb : r ≤ 1048576 := by omega
          clear hr
          go_wp2
          go_roundw
          case rel => exact ⟨k + 1, r, by omega, by go_num, rfl, hr0, hrb, hide (by have h1 := unhide hsn; have h2 := unhide hq; have h3 := unhide hr'; omega), hB1⟩
          case measure => simp [intOf]; omega
      · have hke : k = ts.length := by omega
        have hfin : Hid (q = N - ts.length - tot ts) := hide (by have h2 := unhide hq; rw [hke, List.take_length] at h2; exact h2)
        have hke' := hide hke
        clear hke hq
        go_wp2
        go_ret
        exact ⟨_, rfl, Or.inr ⟨q0, unhide hfin⟩, unhide hB⟩

theorem own_set {w : World} {B n m g cap : Nat} {e : TypeId} {xs : List Value} {p : Addr} (h : w.ownsRow B e m (.slice (some ⟨g, 0, none⟩) n cap) n xs) (hp : p.block ≠ g) (u : Value) : (w.setCell p u).ownsRow B e m (.slice (some ⟨g, 0, none⟩) n cap) n xs := by
  obtain ⟨h1, h2⟩ := h
  refine ⟨h1, ?_⟩
  rcases h2 with ⟨h2, _⟩ | ⟨g', cap', cur, hv, hg, hh, r⟩
  · cases h2
  · have hv' := hv
    simp only [Value.slice.injEq, Option.some.injEq, Addr.mk.injEq, and_true, true_and] at hv
    obtain ⟨rfl, rfl⟩ := hv
    exact Or.inr ⟨g, cap, cur, rfl, hg, by rw [Below.heap_setCell _ _ _ _ (Ne.symm hp)]; exact hh, r⟩

set_option maxHeartbeats 1600000 in
theorem tot1_any (k v d : Int) (a : Option Addr) (cap : Nat) (zs : List Int) (w : World) (hl : zs.length ≤ 1048576) (hr : Ins w a zs) :
    Calls Try.prog 52 #[agT k v a zs.length cap d] w fun e w' => ∃ B, e = .returned (agT k v (some ⟨B, 0, none⟩) zs.length zs.length d) ∧ w.heap.size ≤ B ∧ OwnI w' w.heap.size B zs.length zs.length zs ∧ Below w.heap.size w w' := by
  have hr' := hide hr
  clear hr
  go_enter Try.func52, Try.ntmps52
  go_wp2_with fail
  refine (toi_any a cap zs _ hl ?_).mono ?_
  · exact (unhide hr').below (((Below.refl _ _).alloc (Nat.le_refl _) _).alloc (by simp) _ |>.alloc (by simp; omega) _)
  rintro e w1 ⟨B, rfl, hB, hown, hb⟩
  obtain ⟨hc, hf⟩ := bcell hb
  have hz : w.heap.size + 2 < w1.heap.size := by have := hb.size; simp at this; omega
  have hB' : w.heap.size + 2 < B := by simp at hB; omega
  have hown' := hide hown
  have hb' := hide hb
  clear hown hb
  go_wp2
  refine bodyPost_ret (v := agT k v (some ⟨B, 0, none⟩) zs.length zs.length d) (by simp [results, Try.results52, go_sem, hc, hf, hz]) rfl ⟨B, rfl, by omega, ?_, ?_⟩
  · repeat (refine own_set ?_ (by simp; omega) _)
    exact own_mono (unhide hown') (by simp; omega)
  · have b0 : Below w.heap.size w w1 := (((Below.refl w.heap.size w).alloc (Nat.le_refl _) _).alloc (by simp) _ |>.alloc (by simp; omega) _).trans ((unhide hb').mono (by simp; omega))
    repeat (refine Below.setCell ?_ (by first | (simp; done) | (simp; omega)) _)
    exact b0

set_option maxHeartbeats 1600000 in
theorem eqt1_any (k v d : Int) (a b : Option Addr) (ca cb : Nat) (zs : List Int) (w : World) (hl : zs.length ≤ 1048576) (ha : Ins w a zs) (hb : Ins w b zs) :
    Calls Try.prog 54 #[agT k v a zs.length ca d, agT k v b zs.length cb d] w fun e w' => e = .returned (.bool true) ∧ Below w.heap.size w w' := by
  have ha' := hide ha
  have hb' := hide hb
  clear ha hb
  have e1 : (k != k) = false := by simp
  have e2 : (v != v) = false := by simp
  have e3 : (d != d) = false := by simp
  have hB0 := hide (((Below.refl w.heap.size w).alloc (Nat.le_refl _) (.cells #[.int .i64 k, .int .i64 v, .slice a zs.length ca, .int .i64 d] 33)).alloc (by simp) (.cells #[.int .i64 k, .int .i64 v, .slice b zs.length cb, .int .i64 d] 33))
  go_enter Try.func54, Try.ntmps54
  go_wp2_with fail
  refine (eqi_any a b ca cb zs _ hl ((unhide ha').below (unhide hB0)) ((unhide hb').below (unhide hB0))).mono ?_
  rintro e w1 ⟨rfl, hb⟩
  obtain ⟨hc, hf⟩ := bcell hb
  have hz : w.heap.size + 1 < w1.heap.size := by have := hb.size; simp at this; omega
  have hB1 := hide (laterB (unhide hB0) hb)
  clear hb
  go_wp2
  go_ret
  exact ⟨rfl, unhide hB1⟩

end Go.Proofs.Ytmdkbmnomeampaa
