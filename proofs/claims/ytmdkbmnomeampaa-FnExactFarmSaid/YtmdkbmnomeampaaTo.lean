/-
  Owned lists of tasks; contracts of the law's functions that copy lists of tasks, hold them against each other and write marks into them.
-/
import Derived.Test.YtmdkbmnomeampaaTk
namespace Go.Proofs.Ytmdkbmnomeampaa
open Go.RowKit
set_option linter.unusedVariables false
set_option linter.unusedSimpArgs false

/-- an owned list of tasks with rows of their own: they lie from lo on, below hi; the first k are there -/
structure TO (lo hi : Nat) (w : World) (B : Nat) (ts : List Tv) (k : Nat) : Prop where
  ge : lo ≤ B
  lt : B < hi
  blk : ∃ cur : Array Value, w.heap[B]? = some (.cells cur 33 (0, 0)) ∧ cur.size = ts.length * 4 ∧ ∀ j t, ts[j]? = some t → j < k → ∃ g, g < hi ∧ cur[j * 4]? = some (.int .i64 t.1) ∧ cur[j * 4 + 1]? = some (.int .i64 t.2.1) ∧ cur[j * 4 + 2]? = some (.slice (some ⟨g, 0, none⟩) t.2.2.1.length t.2.2.1.length) ∧ cur[j * 4 + 3]? = some (.int .i64 t.2.2.2) ∧ OwnI w lo g t.2.2.1.length t.2.2.1.length t.2.2.1
theorem TO.later {lo hi : Nat} {w w1 : World} {B : Nat} {ts : List Tv} {k : Nat} (h : TO lo hi w B ts k) (hb : Below w.heap.size w w1) : TO lo hi w1 B ts k := by
  obtain ⟨cur, h1, h2, h3⟩ := h.blk
  refine ⟨h.ge, h.lt, cur, blk_below h1 hb, h2, fun j t ht hj => ?_⟩
  obtain ⟨g, g1, c0, c1, c2, c3, g3⟩ := h3 j t ht hj
  exact ⟨g, g1, c0, c1, c2, c3, ownsRow_below g3 hb⟩
theorem TO.mono {lo hi hi' : Nat} {w : World} {B : Nat} {ts : List Tv} {k : Nat} (h : TO lo hi w B ts k) (hh : hi ≤ hi') : TO lo hi' w B ts k := by
  obtain ⟨cur, h1, h2, h3⟩ := h.blk
  refine ⟨h.ge, Nat.lt_of_lt_of_le h.lt hh, cur, h1, h2, fun j t ht hj => ?_⟩
  obtain ⟨g, g1, g2⟩ := h3 j t ht hj
  exact ⟨g, Nat.lt_of_lt_of_le g1 hh, g2⟩
theorem TO.tks {lo hi : Nat} {w : World} {B : Nat} {ts : List Tv} (h : TO lo hi w B ts ts.length) (hm : ∀ t ∈ ts, t.2.2.1.length ≤ maxLen) : Tks w (some ⟨B, 0, none⟩) ts := by
  obtain ⟨cur, h1, h2, h3⟩ := h.blk
  intro j t ht
  obtain ⟨g, g1, c0, c1, c2, c3, g3⟩ := h3 j t ht (List.getElem?_eq_some_iff.1 ht).1
  refine ⟨B, 0, some ⟨g, 0, none⟩, t.2.2.1.length, rfl, (Array.getElem?_eq_some_iff.1 h1).1, ?_, ?_, ?_, ?_, ins_own g3, hm t (List.mem_of_getElem? ht)⟩ <;> rw [Nat.zero_add]
  · simp [World.cell?, h1, c0]
  · simp [World.cell?, h1, c1]
  · simp [World.cell?, h1, c2]
  · simp [World.cell?, h1, c3]
theorem own_ne {w : World} {lo g n cap B : Nat} {l : List Int} {cur : Array Value} (h : OwnI w lo g n cap l) (hB : w.heap[B]? = some (.cells cur 33 (0, 0))) : g ≠ B := by
  rcases h.2 with ⟨hv, _⟩ | ⟨g', cap', cur', hv, _, hh, _⟩
  · cases hv
  · injection hv with e1
    injection e1 with e1
    injection e1 with e1
    subst e1
    intro e
    rw [e, hB] at hh
    injection hh with hh
    injection hh with _ hh
    exact absurd hh (by decide)
theorem heap_set_at {w : World} {B i : Nat} {cur : Array Value} {T : TypeId} {m : Nat × Nat} {v : Value} (h : w.heap[B]? = some (.cells cur T m)) : (w.setCell ⟨B, i, none⟩ v).heap[B]? = some (.cells (cur.setIfInBounds i v) T m) := by
  simp [World.setCell, h, Array.getElem?_modify]
theorem TO.put {lo hi : Nat} {w : World} {B k g : Nat} {ts : List Tv} {t : Tv} (h : TO lo hi w B ts k) (hx : ts[k]? = some t) (hO : OwnI w lo g t.2.2.1.length t.2.2.1.length t.2.2.1) (hg : g < hi) :
    TO lo hi ((((w.setCell ⟨B, k * 4, none⟩ (.int .i64 t.1)).setCell ⟨B, k * 4 + 1, none⟩ (.int .i64 t.2.1)).setCell ⟨B, k * 4 + 2, none⟩ (.slice (some ⟨g, 0, none⟩) t.2.2.1.length t.2.2.1.length)).setCell ⟨B, k * 4 + 3, none⟩ (.int .i64 t.2.2.2)) B ts (k + 1) := by
  obtain ⟨cur, h1, h2, h3⟩ := h.blk
  have hk : k < ts.length := (List.getElem?_eq_some_iff.1 hx).1
  have hkeep : ∀ (g n cap : Nat) (l : List Int), OwnI w lo g n cap l → OwnI ((((w.setCell ⟨B, k * 4, none⟩ (.int .i64 t.1)).setCell ⟨B, k * 4 + 1, none⟩ (.int .i64 t.2.1)).setCell ⟨B, k * 4 + 2, none⟩ (.slice (some ⟨g, 0, none⟩) t.2.2.1.length t.2.2.1.length)).setCell ⟨B, k * 4 + 3, none⟩ (.int .i64 t.2.2.2)) lo g n cap l := fun g n cap l ho => by
    have hne := own_ne ho h1
    exact own_set (own_set (own_set (own_set ho (Ne.symm hne) _) (Ne.symm hne) _) (Ne.symm hne) _) (Ne.symm hne) _
  have hkeep2 : ∀ (g' n cap : Nat) (l : List Int), OwnI w lo g' n cap l → OwnI ((((w.setCell ⟨B, k * 4, none⟩ (.int .i64 t.1)).setCell ⟨B, k * 4 + 1, none⟩ (.int .i64 t.2.1)).setCell ⟨B, k * 4 + 2, none⟩ (.slice (some ⟨g, 0, none⟩) t.2.2.1.length t.2.2.1.length)).setCell ⟨B, k * 4 + 3, none⟩ (.int .i64 t.2.2.2)) lo g' n cap l := fun g n cap l ho => by
    have hne := own_ne ho h1
    exact own_set (own_set (own_set (own_set ho (Ne.symm hne) _) (Ne.symm hne) _) (Ne.symm hne) _) (Ne.symm hne) _
  refine ⟨h.ge, h.lt, _, heap_set_at (heap_set_at (heap_set_at (heap_set_at h1))), by simpa using h2, fun j u hu hj => ?_⟩
  by_cases e : j = k
  · subst e
    rw [hx] at hu
    injection hu with hu
    subst hu
    refine ⟨g, hg, ?_, ?_, ?_, ?_, hkeep2 _ _ _ _ hO⟩
    · rw [Array.getElem?_setIfInBounds_ne (by omega), Array.getElem?_setIfInBounds_ne (by omega), Array.getElem?_setIfInBounds_ne (by omega), Array.getElem?_setIfInBounds_self_of_lt (by omega)]
    · rw [Array.getElem?_setIfInBounds_ne (by omega), Array.getElem?_setIfInBounds_ne (by omega), Array.getElem?_setIfInBounds_self_of_lt (by simp; omega)]
    · rw [Array.getElem?_setIfInBounds_ne (by omega), Array.getElem?_setIfInBounds_self_of_lt (by simp; omega)]
    · rw [Array.getElem?_setIfInBounds_self_of_lt (by simp; omega)]
  · obtain ⟨g', g1, c0, c1, c2, c3, g3⟩ := h3 j u hu (by omega)
    refine ⟨g', g1, ?_, ?_, ?_, ?_, hkeep2 _ _ _ _ g3⟩ <;> rw [Array.getElem?_setIfInBounds_ne (by omega), Array.getElem?_setIfInBounds_ne (by omega), Array.getElem?_setIfInBounds_ne (by omega), Array.getElem?_setIfInBounds_ne (by omega)] <;> assumption
theorem infoT : (Try.prog.info? 33).map (fun i => (i.zero, i.size, i.bytes)) = some (some (.agg #[.int .i64 0, .int .i64 0, .slice none 0 0, .int .i64 0]), 4, 48) := by kernel_rfl

set_option maxRecDepth 100000 in
set_option maxHeartbeats 1600000 in
theorem tots_any (a : Option Addr) (cap : Nat) (ts : List Tv) (w : World) (hl : ts.length ≤ 1048576) (hm : ∀ t ∈ ts, t.2.2.1.length ≤ 1048576) (hk : Tks w a ts) :
    Calls Try.prog 19 #[.slice a ts.length cap] w fun e w' => ∃ B, e = .returned (.slice (some ⟨B, 0, none⟩) ts.length ts.length) ∧ TO w.heap.size w'.heap.size w' B ts ts.length ∧ Below w.heap.size w w' := by
  obtain ⟨i0, hi, hz0, hz1, hz2⟩ := info_parts infoT
  have hk' := hide hk
  have hm' := hide hm
  clear hk hm
  go_enter Try.func19, Try.ntmps19
  go_wp2_with (refine wpList_make_full _ rfl _ _ 24 rfl w.heap.size 33 i0 _ 4 Try.underlying24 hi hz0 hz1 .i64 .i64 _ _ ts.length rfl rfl rfl rfl ?b2 ?b3 (Nat.le_refl _) ?_)
  case b2 => rw [hz2]; omega
  case b3 => unfold maxLen; omega
  intro w1 hown hg
  have hb1 := hide (show Below w.heap.size w w1 from (Below.refl _ _).grown hg (Nat.le_refl _) (fun k hk => by cases hk))
  have hT1 : Hid (TO w.heap.size w1.heap.size w1 w.heap.size ts 0) := hide (by
    rcases hown.2 with ⟨hv, _⟩ | ⟨g', cap', cur, hv, hB, hh, _, _, hcs, _⟩
    · cases hv
    · injection hv with e1 e2 e3
      injection e1 with e1
      injection e1 with e1
      subst e1 e3
      exact ⟨Nat.le_refl _, (Array.getElem?_eq_some_iff.1 hh).1, cur, hh, by omega, fun j t ht hj => by omega⟩)
  clear hown hg
  go_wp2
  go_loopw [4] (fun t wr => ∃ k : Nat, k ≤ ts.length ∧ t = .int .i64 k ∧ Hid (TO w.heap.size wr.heap.size wr w.heap.size ts k) ∧ Hid (Below w.heap.size w wr)) (fun t _ => ts.length - (intOf t).toNat)
  case atStart => exact ⟨0, by omega, rfl, hT1, hb1⟩
  case round =>
    clear hT1 hb1
    obtain ⟨k, hkl, rfl, hT, hB⟩ := hrel
    by_cases hlt : k < ts.length
    · obtain ⟨b, o, p, c, t, rfl, hx, hb, c0, c1, c2, c3, hK, hmx⟩ := tks_at (unhide hk') (unhide hB) hlt
      have hKr := hide hK
      have htl : t.2.2.1.length ≤ 1048576 := unhide hm' t (List.mem_of_getElem? hx)
      have hx' := hide hx
      clear hx hK hmx
      go_wp2_with fail
      refine (tot1_any t.1 t.2.1 t.2.2.2 p c t.2.2.1 wr htl (unhide hKr)).mono ?_
      rintro e w3 ⟨B3, rfl, q3, hO3, k3⟩
      have hT3 := (unhide hT).later k3
      obtain ⟨cur, h1, h2, h3⟩ := hT3.blk
      have x0 : w3.cell? ⟨w.heap.size, k * 4, none⟩ = some (cur[k * 4]'(by omega)) := by simp [World.cell?, h1, (by omega : k * 4 < cur.size)]
      have x1 : w3.cell? ⟨w.heap.size, k * 4 + 1, none⟩ = some (cur[k * 4 + 1]'(by omega)) := by simp [World.cell?, h1, (by omega : k * 4 + 1 < cur.size)]
      have x2 : w3.cell? ⟨w.heap.size, k * 4 + 2, none⟩ = some (cur[k * 4 + 2]'(by omega)) := by simp [World.cell?, h1, (by omega : k * 4 + 2 < cur.size)]
      have x3 : w3.cell? ⟨w.heap.size, k * 4 + 3, none⟩ = some (cur[k * 4 + 3]'(by omega)) := by simp [World.cell?, h1, (by omega : k * 4 + 3 < cur.size)]
      have f0 : w3.frozen? ⟨w.heap.size, k * 4, none⟩ = false := by simp [World.frozen?, h1]
      have f1 : w3.frozen? ⟨w.heap.size, k * 4 + 1, none⟩ = false := by simp [World.frozen?, h1]
      have f2 : w3.frozen? ⟨w.heap.size, k * 4 + 2, none⟩ = false := by simp [World.frozen?, h1]
      have f3 : w3.frozen? ⟨w.heap.size, k * 4 + 3, none⟩ = false := by simp [World.frozen?, h1]
      have hB3 := hide (laterB (unhide hB) k3)
      have hTn := hide (TO.put (hT3.mono (hi' := w3.heap.size) k3.size) (unhide hx') (own_mono hO3 (unhide hB).size) (own_lt hO3))
      generalize cur[k * 4]'(by omega) = u0 at x0
      generalize cur[k * 4 + 1]'(by omega) = u1 at x1
      generalize cur[k * 4 + 2]'(by omega) = u2 at x2
      generalize cur[k * 4 + 3]'(by omega) = u3 at x3
      clear k3 hO3 hT3 h1 h2 h3 hT hB hKr c0 c1 c2 c3 hx'
      go_wp2
      go_roundw
      case rel => exact ⟨k + 1, by omega, by go_num, hide (by have h9 := unhide hTn; simpa [World.setCell] using h9), hide (((((unhide hB3).setCell (Nat.le_refl _) _).setCell (Nat.le_refl _) _).setCell (Nat.le_refl _) _).setCell (Nat.le_refl _) _)⟩
      case measure => simp [intOf]; omega
    · have hke : k = ts.length := by omega
      have hT' : Hid (TO w.heap.size wr.heap.size wr w.heap.size ts ts.length) := hide (by have := unhide hT; rw [hke] at this; exact this)
      have hke' := hide hke
      clear hke
      go_wp2
      go_ret
      exact ⟨_, rfl, unhide hT', unhide hB⟩

theorem below_drw {w w1 : World} (h : Below w.heap.size w w1) : Below w.heap.size w w1.drew := h.drew
set_option maxHeartbeats 3200000 in
theorem eqts_any (a b : Option Addr) (ca cb : Nat) (ts : List Tv) (w : World) (hl : ts.length ≤ 1048576) (hm : ∀ t ∈ ts, t.2.2.1.length ≤ 1048576) (ha : Tks w a ts) (hb : Tks w b ts) :
    Calls Try.prog 21 #[.slice a ts.length ca, .slice b ts.length cb] w fun e w' => e = .returned (.bool true) ∧ Below w.heap.size w w' := by
  have ha' := hide ha
  have hb' := hide hb
  have hm' := hide hm
  clear ha hb hm
  have hne : ((ts.length : Int) != ts.length) = false := by simp
  go_enter Try.func21, Try.ntmps21
  go_wp2
  go_loopw [5] (fun t wr => ∃ k : Nat, k ≤ ts.length ∧ t = .int .i64 k ∧ Below w.heap.size w wr) (fun t _ => ts.length - (intOf t).toNat)
  case atStart => exact ⟨0, by omega, rfl, Below.refl _ _⟩
  case round =>
    obtain ⟨k, hkl, rfl, hw⟩ := hrel
    by_cases hlt : k < ts.length
    · obtain ⟨b1, o1, p1, c1, t, rfl, hx, i1, m0, m1, m2, m3, K1, _⟩ := tks_at (unhide ha') hw hlt
      obtain ⟨b2, o2, p2, c2, t', rfl, hx', i2, n0, n1, n2, n3, K2, _⟩ := tks_at (unhide hb') hw hlt
      rw [hx] at hx'
      injection hx' with hx'
      subst hx'
      have htl : t.2.2.1.length ≤ 1048576 := unhide hm' t (List.mem_of_getElem? hx)
      have K1' := hide (K1.below (below_drw (Below.refl _ _)))
      have K2' := hide (K2.below (below_drw (Below.refl _ _)))
      obtain ⟨tk, tv, tn, td⟩ := t
      have hall : Hid (wr.cell? ⟨b1, o1 + k * 4, none⟩ = some (.int .i64 tk) ∧ wr.cell? ⟨b1, o1 + k * 4 + 1, none⟩ = some (.int .i64 tv) ∧ wr.cell? ⟨b1, o1 + k * 4 + 2, none⟩ = some (.slice p1 tn.length c1) ∧ wr.cell? ⟨b1, o1 + k * 4 + 3, none⟩ = some (.int .i64 td) ∧ wr.cell? ⟨b2, o2 + k * 4, none⟩ = some (.int .i64 tk) ∧ wr.cell? ⟨b2, o2 + k * 4 + 1, none⟩ = some (.int .i64 tv) ∧ wr.cell? ⟨b2, o2 + k * 4 + 2, none⟩ = some (.slice p2 tn.length c2) ∧ wr.cell? ⟨b2, o2 + k * 4 + 3, none⟩ = some (.int .i64 td) ∧ Below w.heap.size w wr) := hide ⟨m0, m1, m2, m3, n0, n1, n2, n3, hw⟩
      clear hx m0 m1 m2 m3 n0 n1 n2 n3 K1 K2 hw
      go_wp2_with fail
      go_region_held3 (fun w' => w'.cell? ⟨b1, o1 + k * 4, none⟩ = some (.int .i64 tk) ∧ w'.cell? ⟨b1, o1 + k * 4 + 1, none⟩ = some (.int .i64 tv) ∧ w'.cell? ⟨b1, o1 + k * 4 + 2, none⟩ = some (.slice p1 tn.length c1) ∧ w'.cell? ⟨b1, o1 + k * 4 + 3, none⟩ = some (.int .i64 td) ∧ w'.cell? ⟨b2, o2 + k * 4, none⟩ = some (.int .i64 tk) ∧ w'.cell? ⟨b2, o2 + k * 4 + 1, none⟩ = some (.int .i64 tv) ∧ w'.cell? ⟨b2, o2 + k * 4 + 2, none⟩ = some (.slice p2 tn.length c2) ∧ w'.cell? ⟨b2, o2 + k * 4 + 3, none⟩ = some (.int .i64 td) ∧ Below w.heap.size w w')
        (first | (refine keepN ?_ hb; assumption) | (exact keepNd (unhide hall)))
        ((go_at_call 54; refine (eqt1_any tk tv td p1 p2 c1 c2 tn _ htl (unhide K1') (unhide K2')).mono ?_; rintro e w1 ⟨rfl, hb⟩))
      go_wp2
      go_roundw
      case rel => exact ⟨k + 1, by omega, by go_num, by rename_i hH; exact hH.2.2.2.2.2.2.2.2⟩
      case measure => simp [intOf]; omega
    · have hke : k = ts.length := by omega
      go_wp2
      go_ret
      exact ⟨rfl, hw⟩

end Go.Proofs.Ytmdkbmnomeampaa
