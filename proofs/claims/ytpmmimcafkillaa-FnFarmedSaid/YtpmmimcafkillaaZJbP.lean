/-
  Tasks in memory: lists that are read, owned lists; contracts of the law's functions that weigh, copy and hold lists of tasks against each other, and write marks into them.
  Owned lists of tasks; contracts of the law's functions that copy lists of tasks, hold them against each other and write marks into them.
  When tasks are a job, plain: it names no program; no conditions.
-/
import Derived.Test.YtpmmimcafkillaaZCopyL
namespace Go.Proofs.Ytpmmimcafkillaa
open Go.RowKit
set_option linter.unusedVariables false
set_option linter.unusedSimpArgs false

/-- a task as a value: kind, value, needs, cost -/
abbrev Tv := Int × Int × List Int × Int
/-- the tasks ts behind the address a -/
def Tks (w : World) (a : Option Addr) (ts : List Tv) : Prop :=
  ∀ j t, ts[j]? = some t → ∃ b o p c, a = some ⟨b, o, none⟩ ∧ b < w.heap.size ∧ w.cell? ⟨b, o + j * 4, none⟩ = some (.int .i64 t.1) ∧ w.cell? ⟨b, o + j * 4 + 1, none⟩ = some (.int .i64 t.2.1) ∧ w.cell? ⟨b, o + j * 4 + 2, none⟩ = some (.slice p t.2.2.1.length c) ∧ w.cell? ⟨b, o + j * 4 + 3, none⟩ = some (.int .i64 t.2.2.2) ∧ Ins w p t.2.2.1 ∧ t.2.2.1.length ≤ maxLen
theorem Tks.nil {w : World} {a : Option Addr} : Tks w a [] := by intro j z hz; simp at hz
theorem Tks.below {w w' : World} {a : Option Addr} {ts : List Tv} (h : Tks w a ts) (s : Below w.heap.size w w') : Tks w' a ts := by
  intro j t ht
  obtain ⟨b, o, p, c, e, h1, c0, c1, c2, c3, h3, h4⟩ := h j t ht
  have C := fun i => (bcell s).1 b i h1
  exact ⟨b, o, p, c, e, Nat.lt_of_lt_of_le h1 s.size, (C _).trans c0, (C _).trans c1, (C _).trans c2, (C _).trans c3, h3.below s, h4⟩
theorem tks_at {w wr : World} {a : Option Addr} {ts : List Tv} {k : Nat} (h : Tks w a ts) (hw : Below w.heap.size w wr) (hk : k < ts.length) : ∃ b o p c t, a = some ⟨b, o, none⟩ ∧ ts[k]? = some t ∧ b < w.heap.size ∧ wr.cell? ⟨b, o + k * 4, none⟩ = some (.int .i64 t.1) ∧ wr.cell? ⟨b, o + k * 4 + 1, none⟩ = some (.int .i64 t.2.1) ∧ wr.cell? ⟨b, o + k * 4 + 2, none⟩ = some (.slice p t.2.2.1.length c) ∧ wr.cell? ⟨b, o + k * 4 + 3, none⟩ = some (.int .i64 t.2.2.2) ∧ Ins wr p t.2.2.1 ∧ t.2.2.1.length ≤ maxLen := by
  obtain ⟨b, o, p, c, e, h1, c0, c1, c2, c3, h3, h4⟩ := h k ts[k] (List.getElem?_eq_getElem hk)
  have C := fun i => (bcell hw).1 b i h1
  exact ⟨b, o, p, c, _, e, List.getElem?_eq_getElem hk, h1, (C _).trans c0, (C _).trans c1, (C _).trans c2, (C _).trans c3, h3.below hw, h4⟩
def tot (ts : List Tv) : Nat := (ts.map fun t => t.2.2.1.length).sum
theorem tot_snoc {ts : List Tv} {k : Nat} {t : Tv} (h : ts[k]? = some t) : tot (ts.take (k + 1)) = tot (ts.take k) + t.2.2.1.length := by
  rw [List.take_add_one, h]; simp [tot]
theorem tot_append (a b : List Tv) : tot (a ++ b) = tot a + tot b := by simp [tot]
theorem tot_take (ts : List Tv) (k : Nat) : tot (ts.take k) ≤ tot ts := by
  have e : tot ts = tot (ts.take k) + tot (ts.drop k) := by rw [← tot_append, List.take_append_drop]
  omega
theorem tot_mem {ts : List Tv} {t : Tv} (h : t ∈ ts) : t.2.2.1.length ≤ tot ts := by
  obtain ⟨k, hk⟩ := List.getElem?_of_mem h
  have h1 := tot_snoc hk
  have h2 := tot_take ts (k + 1)
  omega
abbrev agT (k v : Int) (p : Option Addr) (n c : Nat) (d : Int) : Value := .agg #[.int .i64 k, .int .i64 v, .slice p n c, .int .i64 d]

set_option maxHeartbeats 400000 in
theorem szi_any (a : Option Addr) (len cap : Nat) (q : Int) (w : World) (hl : len ≤ maxLen) (q0 : 0 ≤ q) (q1 : q ≤ 1048576) :
    Calls Try.prog 67 #[.slice a len cap, .int .i64 q] w fun e w' => ∃ r, e = .returned (.int .i64 r) ∧ ((r = -1 ∧ q < len) ∨ (0 ≤ r ∧ r = q - len)) ∧ w' = w := by
  unfold maxLen at hl
  by_cases h : q - len < 0
  · go_enter Try.func67, Try.ntmps67
    go_wp2
    go_ret
    exact ⟨_, rfl, by omega, rfl⟩
  · go_enter Try.func67, Try.ntmps67
    go_wp2
    go_ret
    exact ⟨_, rfl, by omega, rfl⟩

set_option maxHeartbeats 400000 in
theorem szt_any (k v d : Int) (a : Option Addr) (len cap : Nat) (q : Int) (w : World) (hl : len ≤ maxLen) (q0 : 0 ≤ q) (q1 : q ≤ 1048576) :
    Calls Try.prog 50 #[agT k v a len cap d, .int .i64 q] w fun e w' => ∃ r, e = .returned (.int .i64 r) ∧ ((r = -1 ∧ q < len) ∨ (0 ≤ r ∧ r = q - len)) ∧ Below w.heap.size w w' := by
  have hl' := hide hl
  clear hl
  go_enter Try.func50, Try.ntmps50
  go_wp2_with fail
  refine (szi_any a len cap q _ (unhide hl') q0 q1).mono ?_
  rintro e w1 ⟨r, rfl, hr, rfl⟩
  rcases hr with ⟨rfl, hr⟩ | ⟨hr0, hr⟩
  · go_wp2
    go_ret
    exact ⟨_, rfl, Or.inl ⟨rfl, hr⟩, (Below.refl _ _).alloc (Nat.le_refl _) _⟩
  · have hn : ¬ r < 0 := by omega
    have hr' := hide hr
    clear hr
    go_wp2
    go_ret
    exact ⟨_, rfl, Or.inr ⟨hr0, unhide hr'⟩, (Below.refl _ _).alloc (Nat.le_refl _) _⟩

set_option maxHeartbeats 1600000 in
theorem szts_any (a : Option Addr) (cap : Nat) (ts : List Tv) (w : World) (hl : ts.length ≤ maxLen) (hk : Tks w a ts) (N : Int) (N0 : 0 ≤ N) (N1 : N ≤ 1048576) :
    Calls Try.prog 23 #[.slice a ts.length cap, .int .i64 N] w fun e w' => ∃ r, e = .returned (.int .i64 r) ∧ (r = -1 ∨ (0 ≤ r ∧ r = N - ts.length - tot ts)) ∧ Below w.heap.size w w' := by
  unfold maxLen at hl
  have hk' := hide hk
  clear hk
  by_cases hbig : N - ts.length < 0
  · go_enter Try.func23, Try.ntmps23
    go_wp2
    go_ret
    exact ⟨_, rfl, Or.inl rfl, Below.refl _ _⟩
  · have hbd : decide (N - ts.length < 0) = false := by simpa using hbig
    go_enter Try.func23, Try.ntmps23
    go_wp2
    go_loopw [1, 5] (fun s t wr => ∃ (k : Nat) (q : Int), k ≤ ts.length ∧ t = .int .i64 k ∧ s = .int .i64 q ∧ 0 ≤ q ∧ q ≤ 1048576 ∧ Hid (q = N - ts.length - tot (ts.take k)) ∧ Hid (Below w.heap.size w wr)) (fun _ t _ => ts.length - (intOf t).toNat)
    case atStart => exact ⟨0, N - ts.length, by omega, rfl, rfl, by omega, by omega, hide (by simp [tot]), hide (Below.refl _ _)⟩
    case round =>
      obtain ⟨k, q, hkl, rfl, rfl, q0, q1, hq, hB⟩ := hrel
      by_cases hlt : k < ts.length
      · obtain ⟨b, o, p, c, t, rfl, hx, hb, c0, c1, c2, c3, hK, hm⟩ := tks_at (unhide hk') (unhide hB) hlt
        have hsn := hide (tot_snoc hx)
        have hm' := hide hm
        clear hx hK hm
        go_wp2_with fail
        refine (szt_any t.1 t.2.1 t.2.2.2 p t.2.2.1.length c q _ (unhide hm') q0 q1).mono ?_
        rintro e w1 ⟨r, rfl, hr, hw1⟩
        have hB1 := hide (laterB (unhide hB) hw1)
        clear hw1
        rcases hr with ⟨rfl, hr⟩ | ⟨hr0, hr⟩
        · go_wp2
          go_ret
          exact ⟨_, rfl, Or.inl rfl, unhide hB1⟩
        · have hr1 : decide (r < 0) = false := by simp; omega
          have hr' := hide hr
          have hrb : r ≤ 1048576 := by omega
          clear hr
          go_wp2
          go_roundw
          case rel => exact ⟨k + 1, r, by omega, by go_num, rfl, hr0, hrb, hide (by have h1 := unhide hsn; have h2 := unhide hq; have h3 := unhide hr'; omega), hB1⟩
          case measure => simp [intOf]; omega
      · have hke : k = ts.length := by omega
        have hfin : Hid (q = N - ts.length - tot ts) := hide (by have h2 := unhide hq; rw [hke, List.take_length] at h2; exact h2)
        have hke' := hide hke
        clear hke hq
        go_wp2
        go_ret
        exact ⟨_, rfl, Or.inr ⟨q0, unhide hfin⟩, unhide hB⟩

theorem own_set {w : World} {B n m g cap : Nat} {e : TypeId} {xs : List Value} {p : Addr} (h : w.ownsRow B e m (.slice (some ⟨g, 0, none⟩) n cap) n xs) (hp : p.block ≠ g) (u : Value) : (w.setCell p u).ownsRow B e m (.slice (some ⟨g, 0, none⟩) n cap) n xs := by
  obtain ⟨h1, h2⟩ := h
  refine ⟨h1, ?_⟩
  rcases h2 with ⟨h2, _⟩ | ⟨g', cap', cur, hv, hg, hh, r⟩
  · cases h2
  · have hv' := hv
    simp only [Value.slice.injEq, Option.some.injEq, Addr.mk.injEq, and_true, true_and] at hv
    obtain ⟨rfl, rfl⟩ := hv
    exact Or.inr ⟨g, cap, cur, rfl, hg, by rw [Below.heap_setCell _ _ _ _ (Ne.symm hp)]; exact hh, r⟩

set_option maxHeartbeats 1600000 in
theorem tot1_any (k v d : Int) (a : Option Addr) (cap : Nat) (zs : List Int) (w : World) (hl : zs.length ≤ 1048576) (hr : Ins w a zs) :
    Calls Try.prog 51 #[agT k v a zs.length cap d] w fun e w' => ∃ B, e = .returned (agT k v (some ⟨B, 0, none⟩) zs.length zs.length d) ∧ w.heap.size ≤ B ∧ OwnI w' w.heap.size B zs.length zs.length zs ∧ Below w.heap.size w w' := by
  have hr' := hide hr
  clear hr
  go_enter Try.func51, Try.ntmps51
  go_wp2_with fail
  refine (toi_any a cap zs _ hl ?_).mono ?_
  · exact (unhide hr').below (((Below.refl _ _).alloc (Nat.le_refl _) _).alloc (by simp) _ |>.alloc (by simp; omega) _)
  rintro e w1 ⟨B, rfl, hB, hown, hb⟩
  obtain ⟨hc, hf⟩ := bcell hb
  have hz : w.heap.size + 2 < w1.heap.size := by have := hb.size; simp at this; omega
  have hB' : w.heap.size + 2 < B := by simp at hB; omega
  have hown' := hide hown
  have hb' := hide hb
  clear hown hb
  go_wp2
  refine bodyPost_ret (v := agT k v (some ⟨B, 0, none⟩) zs.length zs.length d) (by simp [results, Try.results51, go_sem, hc, hf, hz]) rfl ⟨B, rfl, by omega, ?_, ?_⟩
  · repeat (refine own_set ?_ (by simp; omega) _)
    exact own_mono (unhide hown') (by simp; omega)
  · have b0 : Below w.heap.size w w1 := (((Below.refl w.heap.size w).alloc (Nat.le_refl _) _).alloc (by simp) _ |>.alloc (by simp; omega) _).trans ((unhide hb').mono (by simp; omega))
    repeat (refine Below.setCell ?_ (by first | (simp; done) | (simp; omega)) _)
    exact b0

set_option maxHeartbeats 1600000 in
theorem eqt1_any (k v d : Int) (a b : Option Addr) (ca cb : Nat) (zs : List Int) (w : World) (hl : zs.length ≤ 1048576) (ha : Ins w a zs) (hb : Ins w b zs) :
    Calls Try.prog 52 #[agT k v a zs.length ca d, agT k v b zs.length cb d] w fun e w' => e = .returned (.bool true) ∧ Below w.heap.size w w' := by
  have ha' := hide ha
  have hb' := hide hb
  clear ha hb
  have e1 : (k != k) = false := by simp
  have e2 : (v != v) = false := by simp
  have e3 : (d != d) = false := by simp
  have hB0 := hide (((Below.refl w.heap.size w).alloc (Nat.le_refl _) (.cells #[.int .i64 k, .int .i64 v, .slice a zs.length ca, .int .i64 d] 33)).alloc (by simp) (.cells #[.int .i64 k, .int .i64 v, .slice b zs.length cb, .int .i64 d] 33))
  go_enter Try.func52, Try.ntmps52
  go_wp2_with fail
  refine (eqi_any a b ca cb zs _ hl ((unhide ha').below (unhide hB0)) ((unhide hb').below (unhide hB0))).mono ?_
  rintro e w1 ⟨rfl, hb⟩
  obtain ⟨hc, hf⟩ := bcell hb
  have hz : w.heap.size + 1 < w1.heap.size := by have := hb.size; simp at this; omega
  have hB1 := hide (laterB (unhide hB0) hb)
  clear hb
  go_wp2
  go_ret
  exact ⟨rfl, unhide hB1⟩

end Go.Proofs.Ytpmmimcafkillaa

namespace Go.Proofs.Ytpmmimcafkillaa
open Go.RowKit
set_option linter.unusedVariables false
set_option linter.unusedSimpArgs false

/-- an owned list of tasks with rows of their own: they lie from lo on, below hi; the first k are there -/
structure TO (lo hi : Nat) (w : World) (B : Nat) (ts : List Tv) (k : Nat) : Prop where
  ge : lo ≤ B
  lt : B < hi
  blk : ∃ cur : Array Value, w.heap[B]? = some (.cells cur 33 (0, 0)) ∧ cur.size = ts.length * 4 ∧ ∀ j t, ts[j]? = some t → j < k → ∃ g, g < hi ∧ cur[j * 4]? = some (.int .i64 t.1) ∧ cur[j * 4 + 1]? = some (.int .i64 t.2.1) ∧ cur[j * 4 + 2]? = some (.slice (some ⟨g, 0, none⟩) t.2.2.1.length t.2.2.1.length) ∧ cur[j * 4 + 3]? = some (.int .i64 t.2.2.2) ∧ OwnI w lo g t.2.2.1.length t.2.2.1.length t.2.2.1
theorem TO.later {lo hi : Nat} {w w1 : World} {B : Nat} {ts : List Tv} {k : Nat} (h : TO lo hi w B ts k) (hb : Below w.heap.size w w1) : TO lo hi w1 B ts k := by
  obtain ⟨cur, h1, h2, h3⟩ := h.blk
  refine ⟨h.ge, h.lt, cur, blk_below h1 hb, h2, fun j t ht hj => ?_⟩
  obtain ⟨g, g1, c0, c1, c2, c3, g3⟩ := h3 j t ht hj
  exact ⟨g, g1, c0, c1, c2, c3, ownsRow_below g3 hb⟩
theorem TO.mono {lo hi hi' : Nat} {w : World} {B : Nat} {ts : List Tv} {k : Nat} (h : TO lo hi w B ts k) (hh : hi ≤ hi') : TO lo hi' w B ts k := by
  obtain ⟨cur, h1, h2, h3⟩ := h.blk
  refine ⟨h.ge, Nat.lt_of_lt_of_le h.lt hh, cur, h1, h2, fun j t ht hj => ?_⟩
  obtain ⟨g, g1, g2⟩ := h3 j t ht hj
  exact ⟨g, Nat.lt_of_lt_of_le g1 hh, g2⟩
theorem TO.tks {lo hi : Nat} {w : World} {B : Nat} {ts : List Tv} (h : TO lo hi w B ts ts.length) (hm : ∀ t ∈ ts, t.2.2.1.length ≤ maxLen) : Tks w (some ⟨B, 0, none⟩) ts := by
  obtain ⟨cur, h1, h2, h3⟩ := h.blk
  intro j t ht
  obtain ⟨g, g1, c0, c1, c2, c3, g3⟩ := h3 j t ht (List.getElem?_eq_some_iff.1 ht).1
  refine ⟨B, 0, some ⟨g, 0, none⟩, t.2.2.1.length, rfl, (Array.getElem?_eq_some_iff.1 h1).1, ?_, ?_, ?_, ?_, ins_own g3, hm t (List.mem_of_getElem? ht)⟩ <;> rw [Nat.zero_add]
  · simp [World.cell?, h1, c0]
  · simp [World.cell?, h1, c1]
  · simp [World.cell?, h1, c2]
  · simp [World.cell?, h1, c3]
theorem own_ne {w : World} {lo g n cap B : Nat} {l : List Int} {cur : Array Value} (h : OwnI w lo g n cap l) (hB : w.heap[B]? = some (.cells cur 33 (0, 0))) : g ≠ B := by
  rcases h.2 with ⟨hv, _⟩ | ⟨g', cap', cur', hv, _, hh, _⟩
  · cases hv
  · injection hv with e1
    injection e1 with e1
    injection e1 with e1
    subst e1
    intro e
    rw [e, hB] at hh
    injection hh with hh
    injection hh with _ hh
    exact absurd hh (by decide)
theorem heap_set_at {w : World} {B i : Nat} {cur : Array Value} {T : TypeId} {m : Nat × Nat} {v : Value} (h : w.heap[B]? = some (.cells cur T m)) : (w.setCell ⟨B, i, none⟩ v).heap[B]? = some (.cells (cur.setIfInBounds i v) T m) := by
  simp [World.setCell, h, Array.getElem?_modify]
theorem TO.put {lo hi : Nat} {w : World} {B k g : Nat} {ts : List Tv} {t : Tv} (h : TO lo hi w B ts k) (hx : ts[k]? = some t) (hO : OwnI w lo g t.2.2.1.length t.2.2.1.length t.2.2.1) (hg : g < hi) :
    TO lo hi ((((w.setCell ⟨B, k * 4, none⟩ (.int .i64 t.1)).setCell ⟨B, k * 4 + 1, none⟩ (.int .i64 t.2.1)).setCell ⟨B, k * 4 + 2, none⟩ (.slice (some ⟨g, 0, none⟩) t.2.2.1.length t.2.2.1.length)).setCell ⟨B, k * 4 + 3, none⟩ (.int .i64 t.2.2.2)) B ts (k + 1) := by
  obtain ⟨cur, h1, h2, h3⟩ := h.blk
  have hk : k < ts.length := (List.getElem?_eq_some_iff.1 hx).1
  have hkeep : ∀ (g n cap : Nat) (l : List Int), OwnI w lo g n cap l → OwnI ((((w.setCell ⟨B, k * 4, none⟩ (.int .i64 t.1)).setCell ⟨B, k * 4 + 1, none⟩ (.int .i64 t.2.1)).setCell ⟨B, k * 4 + 2, none⟩ (.slice (some ⟨g, 0, none⟩) t.2.2.1.length t.2.2.1.length)).setCell ⟨B, k * 4 + 3, none⟩ (.int .i64 t.2.2.2)) lo g n cap l := fun g n cap l ho => by
    have hne := own_ne ho h1
    exact own_set (own_set (own_set (own_set ho (Ne.symm hne) _) (Ne.symm hne) _) (Ne.symm hne) _) (Ne.symm hne) _
  have hkeep2 : ∀ (g' n cap : Nat) (l : List Int), OwnI w lo g' n cap l → OwnI ((((w.setCell ⟨B, k * 4, none⟩ (.int .i64 t.1)).setCell ⟨B, k * 4 + 1, none⟩ (.int .i64 t.2.1)).setCell ⟨B, k * 4 + 2, none⟩ (.slice (some ⟨g, 0, none⟩) t.2.2.1.length t.2.2.1.length)).setCell ⟨B, k * 4 + 3, none⟩ (.int .i64 t.2.2.2)) lo g' n cap l := fun g n cap l ho => by
    have hne := own_ne ho h1
    exact own_set (own_set (own_set (own_set ho (Ne.symm hne) _) (Ne.symm hne) _) (Ne.symm hne) _) (Ne.symm hne) _
  refine ⟨h.ge, h.lt, _, heap_set_at (heap_set_at (heap_set_at (heap_set_at h1))), by simpa using h2, fun j u hu hj => ?_⟩
  by_cases e : j = k
  · subst e
    rw [hx] at hu
    injection hu with hu
    subst hu
    refine ⟨g, hg, ?_, ?_, ?_, ?_, hkeep2 _ _ _ _ hO⟩
    · rw [Array.getElem?_setIfInBounds_ne (by omega), Array.getElem?_setIfInBounds_ne (by omega), Array.getElem?_setIfInBounds_ne (by omega), Array.getElem?_setIfInBounds_self_of_lt (by omega)]
    · rw [Array.getElem?_setIfInBounds_ne (by omega), Array.getElem?_setIfInBounds_ne (by omega), Array.getElem?_setIfInBounds_self_of_lt (by simp; omega)]
    · rw [Array.getElem?_setIfInBounds_ne (by omega), Array.getElem?_setIfInBounds_self_of_lt (by simp; omega)]
    · rw [Array.getElem?_setIfInBounds_self_of_lt (by simp; omega)]
  · obtain ⟨g', g1, c0, c1, c2, c3, g3⟩ := h3 j u hu (by omega)
    refine ⟨g', g1, ?_, ?_, ?_, ?_, hkeep2 _ _ _ _ g3⟩ <;> rw [Array.getElem?_setIfInBounds_ne (by omega), Array.getElem?_setIfInBounds_ne (by omega), Array.getElem?_setIfInBounds_ne (by omega), Array.getElem?_setIfInBounds_ne (by omega)] <;> assumption
theorem infoT : (Try.prog.info? 33).map (fun i => (i.zero, i.size, i.bytes)) = some (some (.agg #[.int .i64 0, .int .i64 0, .slice none 0 0, .int .i64 0]), 4, 48) := by kernel_rfl

set_option maxRecDepth 100000 in
set_option maxHeartbeats 1600000 in
theorem tots_any (a : Option Addr) (cap : Nat) (ts : List Tv) (w : World) (hl : ts.length ≤ 1048576) (hm : ∀ t ∈ ts, t.2.2.1.length ≤ 1048576) (hk : Tks w a ts) :
    Calls Try.prog 24 #[.slice a ts.length cap] w fun e w' => ∃ B, e = .returned (.slice (some ⟨B, 0, none⟩) ts.length ts.length) ∧ TO w.heap.size w'.heap.size w' B ts ts.length ∧ Below w.heap.size w w' := by
  obtain ⟨i0, hi, hz0, hz1, hz2⟩ := info_parts infoT
  have hk' := hide hk
  have hm' := hide hm
  clear hk hm
  go_enter Try.func24, Try.ntmps24
  go_wp2_with (refine wpList_make_full _ rfl _ _ 24 rfl w.heap.size 33 i0 _ 4 Try.underlying24 hi hz0 hz1 .i64 .i64 _ _ ts.length rfl rfl rfl rfl ?b2 ?b3 (Nat.le_refl _) ?_)
  case b2 => rw [hz2]; omega
  case b3 => unfold maxLen; omega
  intro w1 hown hg
  have hb1 := hide (show Below w.heap.size w w1 from (Below.refl _ _).grown hg (Nat.le_refl _) (fun k hk => by cases hk))
  have hT1 : Hid (TO w.heap.size w1.heap.size w1 w.heap.size ts 0) := hide (by
    rcases hown.2 with ⟨hv, _⟩ | ⟨g', cap', cur, hv, hB, hh, _, _, hcs, _⟩
    · cases hv
    · injection hv with e1 e2 e3
      injection e1 with e1
      injection e1 with e1
      subst e1 e3
      exact ⟨Nat.le_refl _, (Array.getElem?_eq_some_iff.1 hh).1, cur, hh, by omega, fun j t ht hj => by omega⟩)
  clear hown hg
  go_wp2
  go_loopw [4] (fun t wr => ∃ k : Nat, k ≤ ts.length ∧ t = .int .i64 k ∧ Hid (TO w.heap.size wr.heap.size wr w.heap.size ts k) ∧ Hid (Below w.heap.size w wr)) (fun t _ => ts.length - (intOf t).toNat)
  case atStart => exact ⟨0, by omega, rfl, hT1, hb1⟩
  case round =>
    clear hT1 hb1
    obtain ⟨k, hkl, rfl, hT, hB⟩ := hrel
    by_cases hlt : k < ts.length
    · obtain ⟨b, o, p, c, t, rfl, hx, hb, c0, c1, c2, c3, hK, hmx⟩ := tks_at (unhide hk') (unhide hB) hlt
      have hKr := hide hK
      have htl : t.2.2.1.length ≤ 1048576 := unhide hm' t (List.mem_of_getElem? hx)
      have hx' := hide hx
      clear hx hK hmx
      go_wp2_with fail
      refine (tot1_any t.1 t.2.1 t.2.2.2 p c t.2.2.1 wr htl (unhide hKr)).mono ?_
      rintro e w3 ⟨B3, rfl, q3, hO3, k3⟩
      have hT3 := (unhide hT).later k3
      obtain ⟨cur, h1, h2, h3⟩ := hT3.blk
      have x0 : w3.cell? ⟨w.heap.size, k * 4, none⟩ = some (cur[k * 4]'(by omega)) := by simp [World.cell?, h1, (by omega : k * 4 < cur.size)]
      have x1 : w3.cell? ⟨w.heap.size, k * 4 + 1, none⟩ = some (cur[k * 4 + 1]'(by omega)) := by simp [World.cell?, h1, (by omega : k * 4 + 1 < cur.size)]
      have x2 : w3.cell? ⟨w.heap.size, k * 4 + 2, none⟩ = some (cur[k * 4 + 2]'(by omega)) := by simp [World.cell?, h1, (by omega : k * 4 + 2 < cur.size)]
      have x3 : w3.cell? ⟨w.heap.size, k * 4 + 3, none⟩ = some (cur[k * 4 + 3]'(by omega)) := by simp [World.cell?, h1, (by omega : k * 4 + 3 < cur.size)]
      have f0 : w3.frozen? ⟨w.heap.size, k * 4, none⟩ = false := by simp [World.frozen?, h1]
      have f1 : w3.frozen? ⟨w.heap.size, k * 4 + 1, none⟩ = false := by simp [World.frozen?, h1]
      have f2 : w3.frozen? ⟨w.heap.size, k * 4 + 2, none⟩ = false := by simp [World.frozen?, h1]
      have f3 : w3.frozen? ⟨w.heap.size, k * 4 + 3, none⟩ = false := by simp [World.frozen?, h1]
      have hB3 := hide (laterB (unhide hB) k3)
      have hTn := hide (TO.put (hT3.mono (hi' := w3.heap.size) k3.size) (unhide hx') (own_mono hO3 (unhide hB).size) (own_lt hO3))
      generalize cur[k * 4]'(by omega) = u0 at x0
      generalize cur[k * 4 + 1]'(by omega) = u1 at x1
      generalize cur[k * 4 + 2]'(by omega) = u2 at x2
      generalize cur[k * 4 + 3]'(by omega) = u3 at x3
      clear k3 hO3 hT3 h1 h2 h3 hT hB hKr c0 c1 c2 c3 hx'
      go_wp2
      go_roundw
      case rel => exact ⟨k + 1, by omega, by go_num, hide (by have h9 := unhide hTn; simpa [World.setCell] using h9), hide (((((unhide hB3).setCell (Nat.le_refl _) _).setCell (Nat.le_refl _) _).setCell (Nat.le_refl _) _).setCell (Nat.le_refl _) _)⟩
      case measure => simp [intOf]; omega
    · have hke : k = ts.length := by omega
      have hT' : Hid (TO w.heap.size wr.heap.size wr w.heap.size ts ts.length) := hide (by have := unhide hT; rw [hke] at this; exact this)
      have hke' := hide hke
      clear hke
      go_wp2
      go_ret
      exact ⟨_, rfl, unhide hT', unhide hB⟩

theorem below_drw {w w1 : World} (h : Below w.heap.size w w1) : Below w.heap.size w w1.drew := h.drew
set_option maxHeartbeats 3200000 in
theorem eqts_any (a b : Option Addr) (ca cb : Nat) (ts : List Tv) (w : World) (hl : ts.length ≤ 1048576) (hm : ∀ t ∈ ts, t.2.2.1.length ≤ 1048576) (ha : Tks w a ts) (hb : Tks w b ts) :
    Calls Try.prog 26 #[.slice a ts.length ca, .slice b ts.length cb] w fun e w' => e = .returned (.bool true) ∧ Below w.heap.size w w' := by
  have ha' := hide ha
  have hb' := hide hb
  have hm' := hide hm
  clear ha hb hm
  have hne : ((ts.length : Int) != ts.length) = false := by simp
  go_enter Try.func26, Try.ntmps26
  go_wp2
  go_loopw [5] (fun t wr => ∃ k : Nat, k ≤ ts.length ∧ t = .int .i64 k ∧ Below w.heap.size w wr) (fun t _ => ts.length - (intOf t).toNat)
  case atStart => exact ⟨0, by omega, rfl, Below.refl _ _⟩
  case round =>
    obtain ⟨k, hkl, rfl, hw⟩ := hrel
    by_cases hlt : k < ts.length
    · obtain ⟨b1, o1, p1, c1, t, rfl, hx, i1, m0, m1, m2, m3, K1, _⟩ := tks_at (unhide ha') hw hlt
      obtain ⟨b2, o2, p2, c2, t', rfl, hx', i2, n0, n1, n2, n3, K2, _⟩ := tks_at (unhide hb') hw hlt
      rw [hx] at hx'
      injection hx' with hx'
      subst hx'
      have htl : t.2.2.1.length ≤ 1048576 := unhide hm' t (List.mem_of_getElem? hx)
      have K1' := hide (K1.below (below_drw (Below.refl _ _)))
      have K2' := hide (K2.below (below_drw (Below.refl _ _)))
      obtain ⟨tk, tv, tn, td⟩ := t
      have hall : Hid (wr.cell? ⟨b1, o1 + k * 4, none⟩ = some (.int .i64 tk) ∧ wr.cell? ⟨b1, o1 + k * 4 + 1, none⟩ = some (.int .i64 tv) ∧ wr.cell? ⟨b1, o1 + k * 4 + 2, none⟩ = some (.slice p1 tn.length c1) ∧ wr.cell? ⟨b1, o1 + k * 4 + 3, none⟩ = some (.int .i64 td) ∧ wr.cell? ⟨b2, o2 + k * 4, none⟩ = some (.int .i64 tk) ∧ wr.cell? ⟨b2, o2 + k * 4 + 1, none⟩ = some (.int .i64 tv) ∧ wr.cell? ⟨b2, o2 + k * 4 + 2, none⟩ = some (.slice p2 tn.length c2) ∧ wr.cell? ⟨b2, o2 + k * 4 + 3, none⟩ = some (.int .i64 td) ∧ Below w.heap.size w wr) := hide ⟨m0, m1, m2, m3, n0, n1, n2, n3, hw⟩
      clear hx m0 m1 m2 m3 n0 n1 n2 n3 K1 K2 hw
      go_wp2_with fail
      go_region_held3 (fun w' => w'.cell? ⟨b1, o1 + k * 4, none⟩ = some (.int .i64 tk) ∧ w'.cell? ⟨b1, o1 + k * 4 + 1, none⟩ = some (.int .i64 tv) ∧ w'.cell? ⟨b1, o1 + k * 4 + 2, none⟩ = some (.slice p1 tn.length c1) ∧ w'.cell? ⟨b1, o1 + k * 4 + 3, none⟩ = some (.int .i64 td) ∧ w'.cell? ⟨b2, o2 + k * 4, none⟩ = some (.int .i64 tk) ∧ w'.cell? ⟨b2, o2 + k * 4 + 1, none⟩ = some (.int .i64 tv) ∧ w'.cell? ⟨b2, o2 + k * 4 + 2, none⟩ = some (.slice p2 tn.length c2) ∧ w'.cell? ⟨b2, o2 + k * 4 + 3, none⟩ = some (.int .i64 td) ∧ Below w.heap.size w w')
        (first | (refine keepN ?_ hb; assumption) | (exact keepNd (unhide hall)))
        ((go_at_call 52; refine (eqt1_any tk tv td p1 p2 c1 c2 tn _ htl (unhide K1') (unhide K2')).mono ?_; rintro e w1 ⟨rfl, hb⟩))
      go_wp2
      go_roundw
      case rel => exact ⟨k + 1, by omega, by go_num, by rename_i hH; exact hH.2.2.2.2.2.2.2.2⟩
      case measure => simp [intOf]; omega
    · have hke : k = ts.length := by omega
      go_wp2
      go_ret
      exact ⟨rfl, hw⟩

end Go.Proofs.Ytpmmimcafkillaa

namespace Go.Proofs.Ytpmmimcafkillaa
open Go.RowKit
set_option linter.unusedVariables false
set_option linter.unusedSimpArgs false

/-- needs that rise from m on, all below n -/
def ndOk (n : Int) : Int → List Int → Bool
  | _, [] => true
  | m, x :: l => decide (m ≤ x) && decide (x < n) && ndOk n (x + 1) l
def nOk (n : Int) (zs : List Int) : Bool := decide (zs.length ≤ 10) && ndOk n 0 zs
def frm (x : Int) : Bool := decide (0 ≤ x) && decide (x ≤ 10000000)
def tskOk (i : Int) (t : Tv) : Bool := decide (0 ≤ t.1) && decide (t.1 ≤ 9) && frm t.2.1 && nOk i t.2.2.1 && decide (1 ≤ t.2.2.2) && decide (t.2.2.2 ≤ 1000)
def okFrom : Nat → List Tv → Bool
  | _, [] => true
  | i, t :: l => tskOk i t && okFrom (i + 1) l
def jobOk (ts : List Tv) : Bool := decide (ts.length ≤ 200) && okFrom 0 ts
theorem drop_at {α : Type} {l : List α} {k : Nat} {x : α} (h : l[k]? = some x) : l.drop k = x :: l.drop (k + 1) := by
  obtain ⟨hk, e⟩ := List.getElem?_eq_some_iff.1 h
  rw [List.drop_eq_getElem_cons hk, e]
theorem drop_end {α : Type} {l : List α} {k : Nat} (h : ¬ k < l.length) : l.drop k = [] := List.drop_eq_nil_of_le (by omega)
theorem job_short {ts : List Tv} (h : jobOk ts = true) : ts.length ≤ 200 := by
  simp [jobOk] at h; exact h.1
theorem ok_at {ts : List Tv} {i k : Nat} {t : Tv} (h : okFrom i ts = true) (ht : ts[k]? = some t) : tskOk ((i + k : Nat) : Int) t = true := by
  induction ts generalizing i k with
  | nil => simp at ht
  | cons u l ih =>
    simp [okFrom] at h
    cases k with
    | zero => simp at ht; subst ht; exact h.1
    | succ k =>
      have h1 := ih h.2 (by simpa using ht)
      have e : i + 1 + k = i + (k + 1) := by omega
      rw [e] at h1; exact h1
theorem job_at {ts : List Tv} {k : Nat} {t : Tv} (h : jobOk ts = true) (ht : ts[k]? = some t) : tskOk (k : Int) t = true := by
  simp [jobOk] at h
  have h1 := ok_at h.2 ht
  rw [Nat.zero_add] at h1; exact h1
theorem nd_all {n m : Int} {zs : List Int} (h : ndOk n m zs = true) : ∀ x ∈ zs, m ≤ x ∧ x < n := by
  induction zs generalizing m with
  | nil => intro x hx; simp at hx
  | cons y l ih =>
    simp [ndOk] at h
    intro x hx
    rcases List.mem_cons.1 hx with rfl | hx
    · exact h.1
    · have := ih h.2 x hx
      exact ⟨by omega, this.2⟩
structure TOk (i : Nat) (t : Tv) : Prop where
  kind0 : 0 ≤ t.1
  kind1 : t.1 ≤ 9
  val0 : 0 ≤ t.2.1
  val1 : t.2.1 ≤ 10000000
  len : t.2.2.1.length ≤ 10
  need : ∀ x ∈ t.2.2.1, 0 ≤ x ∧ x < i
  cost0 : 1 ≤ t.2.2.2
  cost1 : t.2.2.2 ≤ 1000
theorem job_tok {ts : List Tv} {k : Nat} {t : Tv} (h : jobOk ts = true) (ht : ts[k]? = some t) : TOk k t := by
  have h1 := job_at h ht
  simp [tskOk, frm, nOk] at h1
  obtain ⟨⟨⟨⟨⟨h1, h2⟩, h3, h4⟩, h5, h6⟩, h7⟩, h8⟩ := h1
  exact ⟨h1, h2, h3, h4, h5, nd_all h6, h7, h8⟩
end Go.Proofs.Ytpmmimcafkillaa
