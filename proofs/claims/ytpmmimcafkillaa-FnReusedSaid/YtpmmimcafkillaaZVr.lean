/-
  The draw of a job and of what is changed in it; nothing that was there is written.
  What is taken from before, and what a change makes dirty, plain. It names no program; no conditions.
  Pieces of FnReused's law, by lone walks.
-/
import Derived.Test.YtpmmimcafkillaaZUh
import Derived.Test.YtpmmimcafkillaaZVc
import Derived.Test.YtpmmimcafkillaaZVd
import Derived.Test.YtpmmimcafkillaaZUe
import Derived.BigQuiet
import Derived.Deep.CutRange
import Derived.Deep.CutBlock
namespace Go.Proofs.Ytpmmimcafkillaa
open Go.RowKit
set_option linter.unusedVariables false
set_option linter.unusedSimpArgs false
/-- a job and numbers that are drawn -/
def DyD (w : World) (e : Ending) (w' : World) : Prop := ∃ G c g6 c6 ts l, e = .returned (.tuple #[.slice (some ⟨G, 0, none⟩) (List.length (α := Tv) ts) c, .slice (some ⟨g6, 0, none⟩) (List.length (α := Int) l) c6]) ∧ ts.length ≤ 210 ∧ l.length ≤ 10 ∧ Tks w' (some ⟨G, 0, none⟩) ts ∧ Ins w' (some ⟨g6, 0, none⟩) l ∧ l.length ≤ c6 ∧ Below w.heap.size w w'
theorem own_add {w wr w1 : World} {B g len cap x : Nat} {a : Option Addr} (h : DS w B g a len cap wr) (hB : B ≤ g) (hg : g < w.heap.size) {g6 m c6 m' c' : Nat} {l l' : List Int} (ho : OwnI wr w.heap.size g6 m c6 l) (ho' : OwnI w1 w.heap.size x m' c' l') (hgr : wr.grownBy w1 (some g6)) : DS w B g a len cap w1 ∧ OwnI w1 w.heap.size x m' c' l' := ⟨ds_own h hB hg (own_ge ho) hgr, ho'⟩
theorem own_call {w wr w1 : World} {g g6 m c6 : Nat} {l : List Int} (ho : OwnI wr w.heap.size g6 m c6 l) (hg : g < w.heap.size) (hgr : wr.grownBy w1 (some g)) : OwnI w1 w.heap.size g6 m c6 l := own_kept ho hgr (by have := own_ge ho; omega)
theorem lit3d {w : World} {T : TypeId} {k : Nat} {a0 a1 a2 : Int} (hk : k < 3) : ∃ v : Int, (w.alloc (.cells #[.int .i64 a0, .int .i64 a1, .int .i64 a2] T)).cell? ⟨w.heap.size, k, none⟩ = some (.int .i64 v) := lit3 hk
theorem JS.grown4 {w wk wr : World} {B g len cap G n c : Nat} {a : Option Addr} {vs : List Tq} (h : JS 4 w B g a len cap wk G n c vs) (hg : g < w.heap.size) (hd : DS w B g a len cap wr) (hgr : wk.grownBy wr (some g)) : JS 4 w B g a len cap wr G n c vs :=
  h.keep hd (hgr.block G h.G_lt.2 (by intro e; injection e with e; have := h.G_lt.1; omega)) fun k cur h1 h2 _ => hgr.block k (Array.getElem?_eq_some_iff.1 h2).1 (by intro e; injection e with e; omega)
theorem own_capI {w : World} {B g n c : Nat} {l : List Int} (h : OwnI w B g n c l) : n ≤ c := by
  rcases h.2 with ⟨hv, _⟩ | ⟨g', cap', cur, hv, hB, hh, hc, _⟩
  · cases hv
  · injection hv with e1 e2 e3
    subst e3
    exact hc
theorem DyD.mk {W w1 w2 wr : World} {g G n c g6 m c6 len cap : Nat} {a : Option Addr} {vs : List Tq} {l : List Int} (hS : JS 4 w1 W.heap.size g a len cap w2 G n c vs) (hb : Below W.heap.size W w1) (hg : W.heap.size ≤ g) (hgl : g < w1.heap.size) (hn : n ≤ 210) (hd : DS w2 W.heap.size g a len cap wr) (ho : OwnI wr w2.heap.size g6 m c6 l) (hm : m ≤ 10) :
    DyD W (.returned (.tuple #[.slice (some ⟨G, 0, none⟩) n c, .slice (some ⟨g6, 0, none⟩) m c6])) wr := by
  have h2 : DS w1 W.heap.size g a len cap wr := ⟨hd.cur, hd.rd, grown_trans hS.ds.gr hd.gr⟩
  obtain ⟨ts, e, hT⟩ := (hS.grown4 hgl h2 hd.gr).tks (by omega)
  subst e
  have el := ownI_len ho
  subst el
  exact ⟨G, c, g6, c6, ts, l, rfl, hn, hm, hT, ins_own ho, own_capI ho, below_grown hb h2.gr hg⟩
set_option maxRecDepth 100000 in
set_option maxHeartbeats 3200000 in
theorem ddy_any (a : Option Addr) (len cap : Nat) (W : World) (hl2 : len ≤ 4096) (hr : RdB W W.heap.size a len) :
    Calls Try.prog 15 #[.slice a len cap] W (DyD W) := by
  have hlen : len ≤ 9223372036854775807 := by omega
  have hr' := hide hr
  go_enter Try.func15, Try.ntmps15
  go_wp2_with fail
  refine (new_any a len cap W hlen (by omega) hr).mono ?_
  rintro e w1 ⟨g, rfl, hg0, hc1, hb1⟩
  have hgl := hc1.lt
  have hr1 := hide (rdb_mono (B' := 0) (unhide hr') hb1 (Nat.le_refl _))
  have hb1 := hide hb1
  have hc1 := hide hc1
  clear hr hr'
  go_wp2_with fail
  refine (djb_any W.heap.size g a len cap w1 hg0 hlen (unhide hc1) (unhide hr1)).mono ?_
  rintro e w2 ⟨G, n, c, vs, rfl, hn, S⟩
  have hw12 := S.ds.gr.size
  have hgl2 : g < w2.heap.size := by omega
  have D0 := hide (show DS w2 W.heap.size g a len cap (w2.alloc (.cells #[] 2)) from (⟨S.ds.cur, S.ds.rd, grown_refl _ _⟩ : DS w2 W.heap.size g a len cap w2).later hg0 ((Below.refl _ _).alloc (Nat.le_refl _) _))
  have O0 := hide (ownI_lit0 w2 (B := w2.heap.size) (Nat.le_refl _))
  have S := hide S
  clear hc1 hr1
  go_wp2_with fail
  refine (below_any W.heap.size g a len cap 3 _ hg0 hlen (unhide D0).cur (unhide D0).rd (by omega)).mono ?_
  rintro e w3 ⟨x3, rfl, x30, x31, k3, g3⟩
  obtain ⟨n3, rfl⟩ := Int.eq_ofNat_of_zero_le x30
  have D1 := hide (show DS w2 W.heap.size g a len cap w3 ∧ OwnI w3 w2.heap.size w2.heap.size 0 0 [] from ⟨(unhide D0).step hg0 k3 g3, own_call (unhide O0) hgl2 g3⟩)
  clear D0 O0 k3 g3
  obtain ⟨g00, hg00⟩ : ∃ x, w2.heap.size = x := ⟨_, rfl⟩
  have D2 := hide (show DS w2 W.heap.size g a len cap w3 ∧ OwnI w3 w2.heap.size g00 0 0 [] from by rw [← hg00]; exact unhide D1)
  rw [hg00]
  clear D1 hg00
  go_wp2
  go_loopw [6, 7] (fun s t wr => ∃ (k g6 m c6 : Nat) (l : List Int), t = .int .i64 k ∧ s = .slice (some ⟨g6, 0, none⟩) m c6 ∧ m + k ≤ 3 ∧ Hid (DS w2 W.heap.size g a len cap wr ∧ OwnI wr w2.heap.size g6 m c6 l)) (fun _ t _ => (intOf t).toNat)
  case atStart => exact ⟨n3, g00, 0, 0, [], rfl, rfl, by omega, D2⟩
  case round =>
    clear D2
    obtain ⟨k, g6, m, c6, l, rfl, rfl, hmk, D⟩ := hrel
    by_cases hk : 0 < k ∧ 0 < n
    · obtain ⟨q, rfl⟩ : ∃ q, k = q + 1 := ⟨k - 1, by omega⟩
      have hn0 := hk.2
      have gn : decide ((0 : Int) < n) = true := by simp; omega
      go_wp2_with fail
      refine (below_any W.heap.size g a len cap n _ hg0 hlen (unhide D).1.cur (unhide D).1.rd (by omega)).mono ?_
      rintro e w4 ⟨x4, rfl, x40, x41, k4, g4⟩
      have D4 := hide (show DS w2 W.heap.size g a len cap w4 ∧ OwnI w4 w2.heap.size g6 m c6 l from ⟨(unhide D).1.step hg0 k4 g4, own_call (unhide D).2 hgl2 g4⟩)
      have hs4 := (unhide D4).1.gr.size
      clear k4 g4 D
      go_wp2_with (refine Rn.wpList_iX _ rfl _ _ rfl w2.heap.size g6 m c6 _ x4 rfl (unhide D4).2 rfl (by omega) hs4 ?_)
      intro g' cap' w9 hO9 hg9 _
      have D5 := hide (show DS w2 W.heap.size g a len cap w9 ∧ OwnI w9 w2.heap.size g' (m + 1) cap' (l ++ [x4]) from own_add ((unhide D4).1.later hg0 ((Below.refl _ _).alloc (Nat.le_refl _) _)) hg0 hgl2 (ownsRow_below (unhide D4).2 ((Below.refl _ _).alloc (Nat.le_refl _) _)) hO9 hg9)
      clear hO9 hg9 D4
      go_wp2
      go_roundw
      case rel => exact ⟨q, g', m + 1, cap', _, by go_num, rfl, by omega, D5⟩
      case measure => simp [intOf]
    · have hx : k = 0 ∨ ∃ q, k = q + 1 ∧ n = 0 := by
        rcases Nat.eq_zero_or_pos k with h | h
        · exact .inl h
        · exact .inr ⟨k - 1, by omega, by omega⟩
      have hm3 : m ≤ 3 := by omega
      clear hk hmk
      rcases hx with rfl | ⟨q, rfl, rfl⟩
      · go_wp2_with fail
        refine (once_any W.heap.size g a len cap 16 _ hg0 hlen (unhide D).1.cur (unhide D).1.rd (by omega)).mono ?_
        rintro e w5 ⟨v, rfl, k5, g5⟩
        have D5 := hide (show DS w2 W.heap.size g a len cap w5 ∧ OwnI w5 w2.heap.size g6 m c6 l from ⟨(unhide D).1.step hg0 k5 g5, own_call (unhide D).2 hgl2 g5⟩)
        clear k5 g5 D
        cases v with
        | false =>
          have hF := hide (DyD.mk (unhide S) (unhide hb1) hg0 hgl hn (unhide D5).1 (unhide D5).2 (by omega))
          clear D5 S
          go_wp2
          go_ret2
          exact unhide hF
        | true =>
        have hla := hide (fun j (hj : j < 3) => lit3d (w := w5) (T := 2) (a0 := -1) (a1 := (n : Int)) (a2 := 4611686018427387904) hj)
        have D6 := hide (show DS w2 W.heap.size g a len cap (w5.alloc (.cells #[.int .i64 (-1), .int .i64 (n : Int), .int .i64 4611686018427387904] 2)) ∧ OwnI (w5.alloc (.cells #[.int .i64 (-1), .int .i64 (n : Int), .int .i64 4611686018427387904] 2)) w2.heap.size g6 m c6 l from ⟨(unhide D5).1.later hg0 ((Below.refl _ _).alloc (Nat.le_refl _) _), ownsRow_below (unhide D5).2 ((Below.refl _ _).alloc (Nat.le_refl _) _)⟩)
        have hs5 := (unhide D5).1.gr.size
        clear D5
        go_wp2_with fail
        generalize w5.alloc _ = Y at *
        refine (below_any W.heap.size g a len cap 3 _ hg0 hlen (unhide D6).1.cur (unhide D6).1.rd (by omega)).mono ?_
        rintro e w7 ⟨x7, rfl, x70, x71, k7, g7⟩
        obtain ⟨j, rfl⟩ := Int.eq_ofNat_of_zero_le x70
        obtain ⟨u, hu⟩ := unhide hla j (by omega)
        have hu2 := grown_cell g7 (by omega) hu
        have D7 := hide (show DS w2 W.heap.size g a len cap w7 ∧ OwnI w7 w2.heap.size g6 m c6 l from ⟨(unhide D6).1.step hg0 k7 g7, own_call (unhide D6).2 hgl2 g7⟩)
        have hs7 := (unhide D7).1.gr.size
        clear k7 g7 hu hla D6
        go_wp2_with (refine Rn.wpList_iX _ rfl _ _ rfl w2.heap.size g6 m c6 _ u rfl (unhide D7).2 rfl (by omega) hs7 ?_)
        intro g' cap' w9 hO9 hg9 _
        have D8 := own_add ((unhide D7).1.later hg0 ((Below.refl _ _).alloc (Nat.le_refl _) _)) hg0 hgl2 (ownsRow_below (unhide D7).2 ((Below.refl _ _).alloc (Nat.le_refl _) _)) hO9 hg9
        have hF := hide (DyD.mk (unhide S) (unhide hb1) hg0 hgl hn D8.1 D8.2 (by omega))
        clear hO9 hg9 D8 D7 S
        go_wp2
        go_ret2
        exact unhide hF
      · go_wp2_with fail
        refine (once_any W.heap.size g a len cap 16 _ hg0 hlen (unhide D).1.cur (unhide D).1.rd (by omega)).mono ?_
        rintro e w5 ⟨v, rfl, k5, g5⟩
        have D5 := hide (show DS w2 W.heap.size g a len cap w5 ∧ OwnI w5 w2.heap.size g6 m c6 l from ⟨(unhide D).1.step hg0 k5 g5, own_call (unhide D).2 hgl2 g5⟩)
        clear k5 g5 D
        cases v with
        | false =>
          have hF := hide (DyD.mk (unhide S) (unhide hb1) hg0 hgl (Nat.zero_le _) (unhide D5).1 (unhide D5).2 (by omega))
          clear D5 S
          go_wp2
          go_ret2
          exact unhide hF
        | true =>
        have hla := hide (fun j (hj : j < 3) => lit3d (w := w5) (T := 2) (a0 := -1) (a1 := 0) (a2 := 4611686018427387904) hj)
        have D6 := hide (show DS w2 W.heap.size g a len cap (w5.alloc (.cells #[.int .i64 (-1), .int .i64 0, .int .i64 4611686018427387904] 2)) ∧ OwnI (w5.alloc (.cells #[.int .i64 (-1), .int .i64 0, .int .i64 4611686018427387904] 2)) w2.heap.size g6 m c6 l from ⟨(unhide D5).1.later hg0 ((Below.refl _ _).alloc (Nat.le_refl _) _), ownsRow_below (unhide D5).2 ((Below.refl _ _).alloc (Nat.le_refl _) _)⟩)
        have hs5 := (unhide D5).1.gr.size
        clear D5
        go_wp2_with fail
        generalize w5.alloc _ = Y at *
        refine (below_any W.heap.size g a len cap 3 _ hg0 hlen (unhide D6).1.cur (unhide D6).1.rd (by omega)).mono ?_
        rintro e w7 ⟨x7, rfl, x70, x71, k7, g7⟩
        obtain ⟨j, rfl⟩ := Int.eq_ofNat_of_zero_le x70
        obtain ⟨u, hu⟩ := unhide hla j (by omega)
        have hu2 := grown_cell g7 (by omega) hu
        have D7 := hide (show DS w2 W.heap.size g a len cap w7 ∧ OwnI w7 w2.heap.size g6 m c6 l from ⟨(unhide D6).1.step hg0 k7 g7, own_call (unhide D6).2 hgl2 g7⟩)
        have hs7 := (unhide D7).1.gr.size
        clear k7 g7 hu hla D6
        go_wp2_with (refine Rn.wpList_iX _ rfl _ _ rfl w2.heap.size g6 m c6 _ u rfl (unhide D7).2 rfl (by omega) hs7 ?_)
        intro g' cap' w9 hO9 hg9 _
        have D8 := own_add ((unhide D7).1.later hg0 ((Below.refl _ _).alloc (Nat.le_refl _) _)) hg0 hgl2 (ownsRow_below (unhide D7).2 ((Below.refl _ _).alloc (Nat.le_refl _) _)) hO9 hg9
        have hF := hide (DyD.mk (unhide S) (unhide hb1) hg0 hgl hn D8.1 D8.2 (by omega))
        clear hO9 hg9 D8 D7 S
        go_wp2
        go_ret2
        exact unhide hF
end Go.Proofs.Ytpmmimcafkillaa

namespace Go.Proofs.Ytpmmimcafkillaa
open Go.RowKit
open Go.Proofs.Ytpmmimcafkillaa.Rs (outOf out_at out_len resR dtR hst)
set_option linter.unusedVariables false
set_option linter.unusedSimpArgs false
/-- one value is one more -/
def bump (ts : List Tv) (c : Nat) : List Tv := match ts[c]? with
  | some t => ts.set c (t.1, t.2.1 + 1, t.2.2)
  | none => ts
theorem bump_eq {ts : List Tv} {c : Nat} {t : Tv} (h : ts[c]? = some t) : bump ts c = ts.set c (t.1, t.2.1 + 1, t.2.2) := by simp [bump, h]
theorem bump_len (ts : List Tv) (c : Nat) : (bump ts c).length = ts.length := by
  unfold bump; split <;> simp
theorem bump_ne {ts : List Tv} {c i : Nat} (h : c ≠ i) : (bump ts c)[i]? = ts[i]? := by
  unfold bump
  split
  · rw [List.getElem?_set_ne h]
  · rfl
theorem okFrom_set {ts : List Tv} {i k : Nat} {t' : Tv} (h : okFrom i ts = true) (hk : k < ts.length) (ht : tskOk ((i + k : Nat) : Int) t' = true) : okFrom i (ts.set k t') = true := by
  induction ts generalizing i k with
  | nil => simp at hk
  | cons u l ih =>
    simp [okFrom] at h
    cases k with
    | zero => simp [okFrom]; exact ⟨ht, h.2⟩
    | succ k =>
      simp [okFrom]
      refine ⟨h.1, ih h.2 (by simpa using hk) ?_⟩
      rw [show i + 1 + k = i + (k + 1) by omega]; exact ht
theorem bump_ok {ts : List Tv} {c : Nat} {t : Tv} (hJ : jobOk ts = true) (h : ts[c]? = some t) (hv : t.2.1 < 10000000) : jobOk (bump ts c) = true := by
  have hJ' := hJ
  have hat := job_at hJ h
  have hl := (List.getElem?_eq_some_iff.1 h).1
  have tk := job_tok hJ h
  have v0 := tk.val0
  simp [jobOk] at hJ' ⊢
  rw [bump_len]
  refine ⟨hJ'.1, ?_⟩
  rw [bump_eq h]
  refine okFrom_set hJ'.2 hl ?_
  simp [tskOk, frm, nOk] at hat ⊢
  obtain ⟨⟨⟨⟨⟨h1, h2⟩, h3, h4⟩, h5, h6⟩, h7⟩, h8⟩ := hat
  exact ⟨⟨⟨⟨⟨h1, h2⟩, by omega, by omega⟩, h5, h6⟩, h7⟩, h8⟩
theorem hst_bd (h x : Int) : 0 ≤ hst h x ∧ hst h x < 1000000007 := by unfold hst; omega
theorem hst_inj {h h' x : Int} (h0 : 0 ≤ h) (h1 : h < 1000000007) (g0 : 0 ≤ h') (g1 : h' < 1000000007) (e : hst h x = hst h' x) : h = h' := by
  unfold hst at e
  omega
theorem fold_inj (l : List Int) : ∀ h h' : Int, 0 ≤ h → h < 1000000007 → 0 ≤ h' → h' < 1000000007 → l.foldl hst h = l.foldl hst h' → h = h' := by
  induction l with
  | nil => intro h h' _ _ _ _ e; exact e
  | cons x l ih =>
    intro h h' h0 h1 g0 g1 e
    rw [List.foldl_cons, List.foldl_cons] at e
    have b := hst_bd h x
    have b' := hst_bd h' x
    exact hst_inj h0 h1 g0 g1 (ih _ _ b.1 b.2 b'.1 b'.2 e)
theorem getD_someI {l : List Int} {i : Nat} {x : Int} (h : l[i]? = some x) : l.getD i 0 = x := by rw [List.getD_eq_getElem?_getD, h]; rfl
section
variable {ts : List Tv} {c : Nat} {t : Tv}
theorem dt_cases {i : Nat} {u : Tv} (hJ : jobOk ts = true) (hu : ts[i]? = some u) (hn : (outOf (dtR [(c : Int)]) ts).getD i 0 ≠ 1) : i ≠ c ∧ ∀ x ∈ u.2.2.1, (outOf (dtR [(c : Int)]) ts).getD x.toNat 0 ≠ 1 := by
  have h := getD_someI (out_at (f := dtR [(c : Int)]) hJ hu)
  rw [h] at hn
  have hc : ¬ (List.contains [(c : Int)] (i : Int) || List.contains (Rs.ask (outOf (dtR [(c : Int)]) ts) u) 1) = true := fun e => hn (if_pos e)
  simp only [Bool.or_eq_true, not_or] at hc
  refine ⟨fun e => hc.1 (by subst e; simp), fun x hx e => hc.2 ?_⟩
  rw [List.contains_iff_mem]
  exact List.mem_map.2 ⟨x, hx, e⟩
theorem res_fold {i : Nat} {u : Tv} (hJ : jobOk ts = true) (hu : ts[i]? = some u) : (outOf (resR ts) ts).getD i 0 = (u.2.2.1.map fun n => (outOf (resR ts) ts).getD n.toNat 0).foldl hst ((u.1 * 1000003 + u.2.1) % 1000000007) := by
  rw [getD_someI (out_at (f := resR ts) hJ hu)]
  simp only [resR, hu]
  rfl
/-- what is not dirty comes out as before -/
theorem res_stay (hJ : jobOk ts = true) (ht : ts[c]? = some t) (hv : t.2.1 < 10000000) : ∀ i, i < ts.length → (outOf (dtR [(c : Int)]) ts).getD i 0 ≠ 1 → (outOf (resR (bump ts c)) (bump ts c)).getD i 0 = (outOf (resR ts) ts).getD i 0 := by
  intro i
  induction i using Nat.strongRecOn with
  | _ i ih =>
    intro hi hn
    have hu : ts[i]? = some ts[i] := List.getElem?_eq_getElem hi
    obtain ⟨hic, hns⟩ := dt_cases hJ hu hn
    have hu2 : (bump ts c)[i]? = some ts[i] := by rw [bump_ne (Ne.symm hic)]; exact hu
    rw [res_fold hJ hu, res_fold (bump_ok hJ ht hv) hu2]
    congr 1
    refine List.map_congr_left fun x hx => ?_
    have hx2 := (job_tok hJ hu).need x hx
    exact ih x.toNat (by omega) (by omega) (hns x hx)
theorem low_clean (hJ : jobOk ts = true) : ∀ i, i < c → i < ts.length → (outOf (dtR [(c : Int)]) ts).getD i 0 ≠ 1 := by
  intro i
  induction i using Nat.strongRecOn with
  | _ i ih =>
    intro hic hi e
    have hu : ts[i]? = some ts[i] := List.getElem?_eq_getElem hi
    rw [getD_someI (out_at (f := dtR [(c : Int)]) hJ hu)] at e
    unfold dtR at e
    split at e
    · rename_i h
      rcases Bool.or_eq_true_iff.1 h with h | h
      · simp at h; omega
      · rw [List.contains_iff_mem] at h
        obtain ⟨x, hx, hx2⟩ := List.mem_map.1 h
        have := (job_tok hJ hu).need x hx
        exact ih x.toNat (by omega) (by omega) (by omega) hx2
    · cases e
/-- what is changed comes out otherwise -/
theorem res_differs (hJ : jobOk ts = true) (ht : ts[c]? = some t) (hv : t.2.1 < 10000000) : (outOf (resR (bump ts c)) (bump ts c)).getD c 0 ≠ (outOf (resR ts) ts).getD c 0 := by
  intro e
  have hl := (List.getElem?_eq_some_iff.1 ht).1
  have ht2 : (bump ts c)[c]? = some (t.1, t.2.1 + 1, t.2.2) := by rw [bump_eq ht]; simp [hl]
  rw [res_fold hJ ht, res_fold (bump_ok hJ ht hv) ht2] at e
  have hm : (t.2.2.1.map fun n => (outOf (resR (bump ts c)) (bump ts c)).getD n.toNat 0) = t.2.2.1.map fun n => (outOf (resR ts) ts).getD n.toNat 0 :=
    List.map_congr_left fun x hx => by
      have := (job_tok hJ ht).need x hx
      exact res_stay hJ ht hv x.toNat (by omega) (low_clean hJ x.toNat (by omega) (by omega))
  simp only at e
  rw [hm] at e
  have := fold_inj _ _ _ (by omega) (by omega) (by omega) (by omega) e
  omega
theorem reu_same : ∀ x ∈ reuOf ts ts, x = 0 := by
  intro x hx
  unfold reuOf at hx
  split at hx
  · obtain ⟨i, hi, rfl⟩ := List.mem_map.1 hx
    have hi' := List.mem_range.1 hi
    unfold ruv
    have hl : i < (outOf (resR ts) ts).length := by rw [out_len]; exact hi'
    have : (outOf (resR ts) ts).contains ((outOf (resR ts) ts).getD i 0) = true := by
      rw [List.contains_iff_mem, List.getD_eq_getElem?_getD, List.getElem?_eq_getElem hl]
      exact List.getElem_mem hl
    rw [if_pos this]
  · cases hx
theorem mem_dlk {o : List Int} : ∀ {n : Nat} {i : Nat}, i < n → ((i : Int) ∈ dlk o n ↔ o.getD i 0 = 1) := by
  intro n
  induction n with
  | zero => intro i hi; omega
  | succ n ih =>
    intro i hi
    have hout : ∀ k, n ≤ k → (k : Int) ∉ dlk o n := by
      intro k hk hm
      have hb : ∀ m, ∀ x ∈ dlk o m, x < m := by
        intro m
        induction m with
        | zero => intro x hx; simp [dlk] at hx
        | succ m ihm =>
          intro x hx
          unfold dlk at hx
          split at hx
          · rcases List.mem_append.1 hx with hx | hx
            · have := ihm x hx; omega
            · simp at hx; omega
          · have := ihm x hx; omega
      have := hb n _ hm
      omega
    unfold dlk
    by_cases e : i = n
    · subst e
      split
      · rename_i h
        simp at h
        simp [h]
      · rename_i h
        simp at h
        exact ⟨fun hm => absurd hm (hout i (Nat.le_refl _)), fun h2 => absurd h2 h⟩
    · have hi' : i < n := by omega
      split
      · rw [List.mem_append, ih hi']
        simp
        omega
      · exact ih hi'
/-- what is not dirty is taken from before -/
theorem reu_clean (hJ : jobOk ts = true) (ht : ts[c]? = some t) (hv : t.2.1 < 10000000) {i : Nat} (hi : i < ts.length) (hn : (outOf (dtR [(c : Int)]) ts).getD i 0 ≠ 1) : (reuOf ts (bump ts c))[i]? = some 0 := by
  have hk := bump_ok hJ ht hv
  unfold reuOf
  rw [if_pos (by simp [hJ, hk]), bump_len]
  unfold ruk
  rw [List.getElem?_map, List.getElem?_range hi]
  simp only [Option.map_some, Option.some.injEq]
  unfold ruv
  rw [res_stay hJ ht hv i hi hn]
  have hl : i < (outOf (resR ts) ts).length := by rw [out_len]; exact hi
  have : (outOf (resR ts) ts).contains ((outOf (resR ts) ts).getD i 0) = true := by
    rw [List.contains_iff_mem, List.getD_eq_getElem?_getD, List.getElem?_eq_getElem hl]
    exact List.getElem_mem hl
  rw [if_pos this]
theorem reu_len2 (hJ : jobOk ts = true) (ht : ts[c]? = some t) (hv : t.2.1 < 10000000) : (reuOf ts (bump ts c)).length = ts.length := by
  have hk := bump_ok hJ ht hv
  unfold reuOf
  rw [if_pos (by simp [hJ, hk]), bump_len, ruk_len]
end
end Go.Proofs.Ytpmmimcafkillaa

namespace Go.Proofs.Ytpmmimcafkillaa
open Go.RowKit
set_option linter.unusedVariables false
set_option linter.unusedSimpArgs false
set_option maxHeartbeats 800000 in
theorem sin_any (a b : Option Addr) (ca cb : Nat) (l : List Int) (w : World) (hl : l.length ≤ 1048576) (ha : Ins w a l) (hb : Ins w b l) :
    Calls Try.prog 17 #[.slice a l.length ca, .slice b l.length cb] w fun e w' => e = .returned (.bool true) ∧ Below w.heap.size w w' := by
  have ha' := hide ha
  have hb' := hide hb
  clear ha hb
  have hne : ((l.length : Int) != l.length) = false := by simp
  go_enter Try.func17, Try.ntmps17
  go_wp2
  go_loopw [5] (fun t wr => ∃ k : Nat, k ≤ l.length ∧ t = .int .i64 k ∧ Hid (Below w.heap.size w wr)) (fun t _ => l.length - (intOf t).toNat)
  case atStart => exact ⟨0, by omega, rfl, hide (Below.refl _ _)⟩
  case round =>
    obtain ⟨k, hk, rfl, hw⟩ := hrel
    by_cases hlt : k < l.length
    · obtain ⟨b1, o1, x, rfl, hx, i1, c0⟩ := ins_at (unhide ha') (unhide hw) hlt
      obtain ⟨b2, o2, y, rfl, hy, i2, d0⟩ := ins_at (unhide hb') (unhide hw) hlt
      rw [hx] at hy
      injection hy with hy
      subst hy
      have e1 : (x != x) = false := by simp
      clear hx i1 i2
      go_wp2_with fail
      go_quiet (fail)
      go_wp2
      go_roundw
      case rel => exact ⟨k + 1, by omega, by go_num, hide (below_drewN (unhide hw) _)⟩
      case measure => simp [intOf]; omega
    · have hke : k = l.length := by omega
      go_wp2
      go_ret
      exact ⟨rfl, unhide hw⟩
/-- tasks as they lie -/
structure KT (w : World) (qs : List Tq) (ts : List Tv) : Prop where
  len : qs.length = ts.length
  rel : ∀ (j : Nat) (t : Tv), ts[j]? = some t → ∃ p c, qs[j]? = some (t.1, t.2.1, .slice p t.2.2.1.length c, t.2.2.2) ∧ Ins w p t.2.2.1 ∧ t.2.2.1.length ≤ maxLen
theorem kt_tks {w wr : World} {B g n cap : Nat} {qs : List Tq} {ts : List Tv} (h : KT w qs ts) (hb : Below w.heap.size w wr) (ho : OwnQ wr B g n cap qs) : Tks wr (some ⟨g, 0, none⟩) ts := by
  intro j t ht
  obtain ⟨p, c, h1, h2, h3⟩ := h.rel j t ht
  obtain ⟨c0, c1, c2, c3⟩ := ownQ_at ho h1
  refine ⟨g, 0, p, c, rfl, own_lt ho, ?_, ?_, ?_, ?_, h2.below hb, h3⟩ <;> rw [Nat.zero_add]
  · exact c0
  · exact c1
  · exact c2
  · exact c3
theorem kt_of {w : World} {J : Nat} {ts : List Tv} (h : Tks w (some ⟨J, 0, none⟩) ts) : ∃ qs, KT w qs ts ∧ (∀ i u, (flQ qs)[i]? = some u → w.cell? ((⟨J, 0, none⟩ : Addr).add i) = some u) ∧ ∀ u ∈ flQ qs, u.oneCell' = true := by
  obtain ⟨f, hf⟩ := Go.Deep.choose_lt (α := Option Addr × Nat) (n := ts.length) (p := fun j pc => ∀ t, ts[j]? = some t → w.cell? ⟨J, j * 4, none⟩ = some (.int .i64 t.1) ∧ w.cell? ⟨J, j * 4 + 1, none⟩ = some (.int .i64 t.2.1) ∧ w.cell? ⟨J, j * 4 + 2, none⟩ = some (.slice pc.1 t.2.2.1.length pc.2) ∧ w.cell? ⟨J, j * 4 + 3, none⟩ = some (.int .i64 t.2.2.2) ∧ Ins w pc.1 t.2.2.1 ∧ t.2.2.1.length ≤ maxLen) (fun j hj => by
    obtain ⟨b, o, p, c, e, h1, c0, c1, c2, c3, h2, h3⟩ := h j ts[j] (List.getElem?_eq_getElem hj)
    injection e with e
    injection e with e1 e2
    subst e1 e2
    simp only [Nat.zero_add] at c0 c1 c2 c3
    refine ⟨(p, c), fun t ht => ?_⟩
    rw [List.getElem?_eq_getElem hj] at ht
    injection ht with ht
    subst ht
    exact ⟨c0, c1, c2, c3, h2, h3⟩)
  have hz : ∀ (j : Nat) (t : Tv), ts[j]? = some t → ((List.range ts.length).map fun j => (((ts.getD j (0, 0, [], 0)).1, (ts.getD j (0, 0, [], 0)).2.1, .slice (f j).1 (ts.getD j (0, 0, [], 0)).2.2.1.length (f j).2, (ts.getD j (0, 0, [], 0)).2.2.2) : Tq))[j]? = some (t.1, t.2.1, .slice (f j).1 t.2.2.1.length (f j).2, t.2.2.2) := fun j t ht => by
    have hj := (List.getElem?_eq_some_iff.1 ht).1
    rw [List.getElem?_map, List.getElem?_range hj]
    simp [List.getD_eq_getElem?_getD, ht]
  generalize hqs : ((List.range ts.length).map fun j => (((ts.getD j (0, 0, [], 0)).1, (ts.getD j (0, 0, [], 0)).2.1, .slice (f j).1 (ts.getD j (0, 0, [], 0)).2.2.1.length (f j).2, (ts.getD j (0, 0, [], 0)).2.2.2) : Tq)) = qs at hz
  have hl : qs.length = ts.length := by rw [← hqs]; simp
  have hcell : ∀ i u, (flQ qs)[i]? = some u → w.cell? ⟨J, i, none⟩ = some u ∧ u.oneCell' = true := fun i u hu => by
    have hi := (List.getElem?_eq_some_iff.1 hu).1
    rw [flQ_len] at hi
    have hj : i / 4 < ts.length := by omega
    have ht := List.getElem?_eq_getElem hj
    obtain ⟨c0, c1, c2, c3, _⟩ := hf (i / 4) hj _ ht
    obtain ⟨a0, a1, a2, a3⟩ := flQ_get (hz (i / 4) _ ht)
    have e : i = i / 4 * 4 ∨ i = i / 4 * 4 + 1 ∨ i = i / 4 * 4 + 2 ∨ i = i / 4 * 4 + 3 := by omega
    rcases e with e | e | e | e <;> rw [e] at hu ⊢
    · rw [a0] at hu; injection hu with hu; subst hu; exact ⟨c0, rfl⟩
    · rw [a1] at hu; injection hu with hu; subst hu; exact ⟨c1, rfl⟩
    · rw [a2] at hu; injection hu with hu; subst hu; exact ⟨c2, rfl⟩
    · rw [a3] at hu; injection hu with hu; subst hu; exact ⟨c3, rfl⟩
  refine ⟨qs, ⟨hl, fun j t ht => ⟨(f j).1, (f j).2, hz j t ht, (hf j (List.getElem?_eq_some_iff.1 ht).1 t ht).2.2.2.2⟩⟩, fun i u hu => ?_, fun u hu => ?_⟩
  · have e : (⟨J, 0, none⟩ : Addr).add i = ⟨J, i, none⟩ := by unfold Addr.add; split <;> simp_all
    rw [e]; exact (hcell i u hu).1
  · obtain ⟨i, hi⟩ := List.mem_iff_getElem?.1 hu
    exact (hcell i u hi).2
theorem kt_bump {w : World} {qs : List Tq} {ts : List Tv} {c : Nat} {t : Tv} (h : KT w qs ts) (ht : ts[c]? = some t) : ∃ x : Tq, qs[c]? = some x ∧ x.2.1 = t.2.1 ∧ KT w (qs.set c (x.1, t.2.1 + 1, x.2.2)) (bump ts c) := by
  obtain ⟨p, cc, h1, h2, h3⟩ := h.rel c t ht
  refine ⟨_, h1, rfl, ⟨by rw [List.length_set, bump_len]; exact h.len, fun j u hu => ?_⟩⟩
  by_cases e : c = j
  · subst e
    have hl := (List.getElem?_eq_some_iff.1 ht).1
    have hq := (List.getElem?_eq_some_iff.1 h1).1
    rw [bump_eq ht] at hu
    simp [hl] at hu
    subst hu
    exact ⟨p, cc, by simp [hq], h2, h3⟩
  · rw [bump_ne e] at hu
    obtain ⟨p', c', g1, g2, g3⟩ := h.rel j u hu
    exact ⟨p', c', by rw [List.getElem?_set_ne e]; exact g1, g2, g3⟩
end Go.Proofs.Ytpmmimcafkillaa
namespace Go.Proofs.Ytpmmimcafkillaa.Tr
open Go Go.RowKit
open Go.Proofs.Ytpmmimcafkillaa (Ins OwnI Tks Tv iv ins_at tks_at own_ge own_lt ownI_at ins_own OwnQ KT kt_of kt_tks kt_bump bump flQ infoT ownQ_lit0 ownQ_at flQ_set1 flQ_len Tq grown_belowD)
set_option linter.unusedVariables false
set_option linter.unusedSimpArgs false
theorem below_grown2 {w w0 w1 : World} (hb : Below w.heap.size w w0) (hgr : w0.grownBy w1 (Value.ownBlock (.slice (some ⟨w.heap.size, 0, none⟩) 0 0))) : Below w.heap.size w w1 := Go.Proofs.Ytpmmimcafkillaa.below_grown (g := w.heap.size) hb hgr (Nat.le_refl _)
def rft : Code → Code
  | .seq a _ => a
  | c => c
/-- the loop that looks for noughts -/
def RG7 (w : World) (y3 y4 y5 y6 : Value) (a' : Act) (w' : World) : Prop := ∃ T, a' = ⟨T, []⟩ ∧ T.size = 170 ∧ T[3]? = some y3 ∧ T[4]? = some y4 ∧ T[5]? = some y5 ∧ T[6]? = some y6 ∧ w' = w
set_option maxRecDepth 100000 in
set_option maxHeartbeats 4000000 in
theorem gl_7 {w : World} {s : List Int} {g6 c6 : Nat} (hI : Ins w (some ⟨g6, 0, none⟩) s) (hz : ∀ x ∈ s, x = 0) (hl : s.length ≤ 200) (y0 y1 y2 y3 y4 y5 y7 y8 y9 y10 y11 y12 y13 y14 y15 y16 y17 y18 y19 y20 y21 y22 y23 y24 y25 y26 y27 y28 y29 y30 y31 y32 y33 y34 y35 y36 y37 y38 y39 y40 y41 y42 y43 y44 y45 y46 y47 y48 y49 y50 y51 y52 y53 y54 y55 y56 y57 y58 y59 y60 y61 y62 y63 y64 y65 y66 y67 y68 y69 y70 y71 y72 y73 y74 y75 y76 y77 y78 y79 y80 y81 y82 y83 y84 y85 y86 y87 y88 y89 y90 y91 y92 y93 y94 y95 y96 y97 y98 y99 y100 y101 y102 y103 y104 y105 y106 y107 y108 y109 y110 y111 y112 y113 y114 y115 y116 y117 y118 y119 y120 y121 y122 y123 y124 y125 y126 y127 y128 y129 y130 y131 y132 y133 y134 y135 y136 y137 y138 y139 y140 y141 y142 y143 y144 y145 y146 y147 y148 y149 y150 y151 y152 y153 y154 y155 y156 y157 y158 y159 y160 y161 y162 y163 y164 y165 y166 y167 y168 y169 : Value) :
    (rft (sdc 7 (Try.f4.body.getD .skip))).wp Try.prog (fun e a' w' => e = .normal ∧ RG7 w y3 y4 y5 (.slice (some ⟨g6, 0, none⟩) s.length c6) a' w') ⟨#[y0, y1, y2, y3, y4, y5, .slice (some ⟨g6, 0, none⟩) s.length c6, y7, y8, y9, y10, y11, y12, y13, y14, y15, y16, y17, y18, y19, y20, y21, y22, y23, y24, y25, y26, y27, y28, y29, y30, y31, y32, y33, y34, y35, y36, y37, y38, y39, y40, y41, y42, y43, y44, y45, y46, y47, y48, y49, y50, y51, y52, y53, y54, y55, y56, y57, y58, y59, y60, y61, y62, y63, y64, y65, y66, y67, y68, y69, y70, y71, y72, y73, y74, y75, y76, y77, y78, y79, y80, y81, y82, y83, y84, y85, y86, y87, y88, y89, y90, y91, y92, y93, y94, y95, y96, y97, y98, y99, y100, y101, y102, y103, y104, y105, y106, y107, y108, y109, y110, y111, y112, y113, y114, y115, y116, y117, y118, y119, y120, y121, y122, y123, y124, y125, y126, y127, y128, y129, y130, y131, y132, y133, y134, y135, y136, y137, y138, y139, y140, y141, y142, y143, y144, y145, y146, y147, y148, y149, y150, y151, y152, y153, y154, y155, y156, y157, y158, y159, y160, y161, y162, y163, y164, y165, y166, y167, y168, y169], []⟩ w := by
  have hI' := hide hI
  have hz' := hide hz
  clear hI hz
  simp only [sdc, rft, Try.f4, Option.getD_some]
  go_wp2
  go_loop [7] (fun u => ∃ (k : Nat), k ≤ s.length ∧ u = .int .i64 k) (fun u => s.length - (intOf u).toNat)
  case atStart => exact ⟨0, by omega, rfl⟩
  case round =>
    obtain ⟨k, hk, rfl⟩ := hrel
    by_cases hlt : k < s.length
    · have gk : decide ((k : Int) < s.length) = true := by simp; omega
      obtain ⟨b1, o1, x, hae, hx, i1, c0⟩ := ins_at (unhide hI') (Below.refl _ _) hlt
      injection hae with hae
      injection hae with hb2 ho2
      subst hb2
      subst ho2
      rw [Nat.zero_add] at c0
      have x0 := unhide hz' x (List.mem_of_getElem? hx)
      subst x0
      clear hx
      go_wp2
      go_round
      case rel => exact ⟨k + 1, by omega, by go_num⟩
      case measure => simp [intOf]; omega
    · obtain rfl : k = s.length := by omega
      have gk : decide ((s.length : Int) < s.length) = false := by simp
      go_wp2
      exact ⟨_, rfl, rfl, rfl, rfl, rfl, rfl, rfl⟩
/-- is nothing changed, or nothing dirty, or the value the greatest? -/
def RG9 (w : World) (ts : List Tv) (ch d : List Int) (y3 y4 y5 y6 y8 : Value) (a' : Act) (w' : World) : Prop := ∃ T b, a' = ⟨T, []⟩ ∧ T.size = 170 ∧ T[3]? = some y3 ∧ T[4]? = some y4 ∧ T[5]? = some y5 ∧ T[6]? = some y6 ∧ T[8]? = some y8 ∧ T[71]? = some (.bool b) ∧ w' = w ∧ (b = false → d.length ≠ 0 ∧ ∃ (c0 : Nat) (t : Tv), ch[0]? = some (c0 : Int) ∧ ts[c0]? = some t ∧ t.2.1 ≠ 10000000)
set_option maxRecDepth 100000 in
set_option maxHeartbeats 4000000 in
theorem gl_9 {w : World} {ts : List Tv} {ch d : List Int} {J cJ C cC Dg cD : Nat} (hT : Tks w (some ⟨J, 0, none⟩) ts) (hI : Ins w (some ⟨C, 0, none⟩) ch) (hr : d.length ≠ 0 → ∀ x ∈ ch, 0 ≤ x ∧ x < ts.length) (hl : ch.length ≤ 1000) (hn : ts.length ≤ 1000) (y0 y1 y2 y6 y7 y8 y9 y10 y11 y12 y13 y14 y15 y16 y17 y18 y19 y20 y21 y22 y23 y24 y25 y26 y27 y28 y29 y30 y31 y32 y33 y34 y35 y36 y37 y38 y39 y40 y41 y42 y43 y44 y45 y46 y47 y48 y49 y50 y51 y52 y53 y54 y55 y56 y57 y58 y59 y60 y61 y62 y63 y64 y65 y66 y67 y68 y69 y70 y71 y72 y73 y74 y75 y76 y77 y78 y79 y80 y81 y82 y83 y84 y85 y86 y87 y88 y89 y90 y91 y92 y93 y94 y95 y96 y97 y98 y99 y100 y101 y102 y103 y104 y105 y106 y107 y108 y109 y110 y111 y112 y113 y114 y115 y116 y117 y118 y119 y120 y121 y122 y123 y124 y125 y126 y127 y128 y129 y130 y131 y132 y133 y134 y135 y136 y137 y138 y139 y140 y141 y142 y143 y144 y145 y146 y147 y148 y149 y150 y151 y152 y153 y154 y155 y156 y157 y158 y159 y160 y161 y162 y163 y164 y165 y166 y167 y168 y169 : Value) :
    (rft (rft (sdc 9 (Try.f4.body.getD .skip)))).wp Try.prog (fun e a' w' => e = .normal ∧ RG9 w ts ch d (.slice (some ⟨J, 0, none⟩) ts.length cJ) (.slice (some ⟨C, 0, none⟩) ch.length cC) (.slice (some ⟨Dg, 0, none⟩) d.length cD) y6 y8 a' w') ⟨#[y0, y1, y2, .slice (some ⟨J, 0, none⟩) ts.length cJ, .slice (some ⟨C, 0, none⟩) ch.length cC, .slice (some ⟨Dg, 0, none⟩) d.length cD, y6, y7, y8, y9, y10, y11, y12, y13, y14, y15, y16, y17, y18, y19, y20, y21, y22, y23, y24, y25, y26, y27, y28, y29, y30, y31, y32, y33, y34, y35, y36, y37, y38, y39, y40, y41, y42, y43, y44, y45, y46, y47, y48, y49, y50, y51, y52, y53, y54, y55, y56, y57, y58, y59, y60, y61, y62, y63, y64, y65, y66, y67, y68, y69, y70, y71, y72, y73, y74, y75, y76, y77, y78, y79, y80, y81, y82, y83, y84, y85, y86, y87, y88, y89, y90, y91, y92, y93, y94, y95, y96, y97, y98, y99, y100, y101, y102, y103, y104, y105, y106, y107, y108, y109, y110, y111, y112, y113, y114, y115, y116, y117, y118, y119, y120, y121, y122, y123, y124, y125, y126, y127, y128, y129, y130, y131, y132, y133, y134, y135, y136, y137, y138, y139, y140, y141, y142, y143, y144, y145, y146, y147, y148, y149, y150, y151, y152, y153, y154, y155, y156, y157, y158, y159, y160, y161, y162, y163, y164, y165, y166, y167, y168, y169], []⟩ w := by
  have hT' := hide hT
  have hI' := hide hI
  have hr' := hide hr
  clear hT hI hr
  simp only [sdc, rft, Try.f4, Option.getD_some]
  by_cases h1 : ch.length = 0
  · have q1 : ((ch.length : Int) == 0) = true := by simp [h1]
    clear h1
    go_wp2
    exact ⟨_, true, rfl, rfl, rfl, rfl, rfl, rfl, rfl, rfl, rfl, fun e => by cases e⟩
  have q1 : ((ch.length : Int) == 0) = false := by simp; intro e; exact h1 (by rw [e]; rfl)
  by_cases h2 : d.length = 0
  · have q2 : ((d.length : Int) == 0) = true := by simp [h2]
    clear h1 h2
    go_wp2
    exact ⟨_, true, rfl, rfl, rfl, rfl, rfl, rfl, rfl, rfl, rfl, fun e => by cases e⟩
  have q2 : ((d.length : Int) == 0) = false := by simp; intro e; exact h2 (by rw [e]; rfl)
  have hc0 : 0 < ch.length := by omega
  obtain ⟨b1, o1, x, hae, hx, i1, c0⟩ := ins_at (unhide hI') (Below.refl _ _) hc0
  injection hae with hae
  injection hae with hb2 ho2
  subst hb2
  subst ho2
  simp only [Nat.add_zero] at c0
  obtain ⟨x0, x1⟩ := unhide hr' h2 x (List.mem_of_getElem? hx)
  obtain ⟨n, rfl⟩ := Int.eq_ofNat_of_zero_le x0
  have hnl : n < ts.length := by omega
  obtain ⟨b2, o2, p, c', t, hae, ht, i2, d0, d1, d2, d3, _, _⟩ := tks_at (unhide hT') (Below.refl _ _) hnl
  injection hae with hae
  injection hae with hb2 ho2
  subst hb2
  subst ho2
  rw [Nat.zero_add] at d0 d1 d2 d3
  have hx' := hide hx
  have ht' := hide ht
  have h2' := hide h2
  clear hx ht d0 d2 d3 x0 x1 h1 h2
  by_cases h3 : t.2.1 = 10000000
  · have q3 : (t.2.1 == 10000000) = true := by simp [h3]
    clear h3
    go_wp2
    exact ⟨_, true, rfl, rfl, rfl, rfl, rfl, rfl, rfl, rfl, rfl, fun e => by cases e⟩
  · have q3 : (t.2.1 == 10000000) = false := by simp [h3]
    have h3' := hide h3
    clear h3
    go_wp2
    exact ⟨_, false, rfl, rfl, rfl, rfl, rfl, rfl, rfl, rfl, rfl, fun _ => ⟨unhide h2', n, t, unhide hx', unhide ht', unhide h3'⟩⟩
set_option maxRecDepth 100000 in
set_option maxHeartbeats 4000000 in
theorem gl_10 {w : World} {ts : List Tv} {J cJ : Nat} (hT : Tks w (some ⟨J, 0, none⟩) ts) (hn0 : 0 < ts.length) (hn : ts.length ≤ 1000) (y0 y1 y2 y4 y5 y6 y7 y8 y9 y10 y11 y12 y13 y14 y15 y16 y17 y18 y19 y20 y21 y22 y23 y24 y25 y26 y27 y28 y29 y30 y31 y32 y33 y34 y35 y36 y37 y38 y39 y40 y41 y42 y43 y44 y45 y46 y47 y48 y49 y50 y51 y52 y53 y54 y55 y56 y57 y58 y59 y60 y61 y62 y63 y64 y65 y66 y67 y68 y69 y70 y71 y72 y73 y74 y75 y76 y77 y78 y79 y80 y81 y82 y83 y84 y85 y86 y87 y88 y89 y90 y91 y92 y93 y94 y95 y96 y97 y98 y99 y100 y101 y102 y103 y104 y105 y106 y107 y108 y109 y110 y111 y112 y113 y114 y115 y116 y117 y118 y119 y120 y121 y122 y123 y124 y125 y126 y127 y128 y129 y130 y131 y132 y133 y134 y135 y136 y137 y138 y139 y140 y141 y142 y143 y144 y145 y146 y147 y148 y149 y150 y151 y152 y153 y154 y155 y156 y157 y158 y159 y160 y161 y162 y163 y164 y165 y166 y167 y168 y169 : Value) :
    (rft (sdc 10 (Try.f4.body.getD .skip))).wp Try.prog (fun e a' w' => e = .normal ∧ ∃ g cp qs, a' = ⟨#[y0, y1, y2, .slice (some ⟨J, 0, none⟩) ts.length cJ, y4, y5, y6, y7, y8, .slice (some ⟨g, 0, none⟩) ts.length cp, y10, y11, y12, y13, y14, y15, y16, y17, y18, y19, y20, y21, y22, y23, y24, y25, y26, y27, y28, y29, y30, y31, y32, y33, y34, y35, y36, y37, y38, y39, y40, y41, y42, y43, y44, y45, y46, y47, y48, y49, y50, y51, y52, y53, y54, y55, y56, y57, y58, y59, y60, y61, y62, y63, y64, y65, y66, y67, y68, y69, y70, y71, y72, y73, y74, y75, y76, y77, y78, y79, y80, y81, y82, .slice (some ⟨w.heap.size, 0, none⟩) 0 0, .slice (some ⟨J, 0, none⟩) ts.length cJ, .slice (some ⟨g, 0, none⟩) ts.length cp, y86, y87, y88, y89, y90, y91, y92, y93, y94, y95, y96, y97, y98, y99, y100, y101, y102, y103, y104, y105, y106, y107, y108, y109, y110, y111, y112, y113, y114, y115, y116, y117, y118, y119, y120, y121, y122, y123, y124, y125, y126, y127, y128, y129, y130, y131, y132, y133, y134, y135, y136, y137, y138, y139, y140, y141, y142, y143, y144, y145, y146, y147, y148, y149, y150, y151, y152, y153, y154, y155, y156, y157, y158, y159, y160, y161, y162, y163, y164, y165, y166, y167, y168, y169], []⟩ ∧ KT w qs ts ∧ OwnQ w' w.heap.size g ts.length cp qs ∧ Below w.heap.size w w') ⟨#[y0, y1, y2, .slice (some ⟨J, 0, none⟩) ts.length cJ, y4, y5, y6, y7, y8, y9, y10, y11, y12, y13, y14, y15, y16, y17, y18, y19, y20, y21, y22, y23, y24, y25, y26, y27, y28, y29, y30, y31, y32, y33, y34, y35, y36, y37, y38, y39, y40, y41, y42, y43, y44, y45, y46, y47, y48, y49, y50, y51, y52, y53, y54, y55, y56, y57, y58, y59, y60, y61, y62, y63, y64, y65, y66, y67, y68, y69, y70, y71, y72, y73, y74, y75, y76, y77, y78, y79, y80, y81, y82, y83, y84, y85, y86, y87, y88, y89, y90, y91, y92, y93, y94, y95, y96, y97, y98, y99, y100, y101, y102, y103, y104, y105, y106, y107, y108, y109, y110, y111, y112, y113, y114, y115, y116, y117, y118, y119, y120, y121, y122, y123, y124, y125, y126, y127, y128, y129, y130, y131, y132, y133, y134, y135, y136, y137, y138, y139, y140, y141, y142, y143, y144, y145, y146, y147, y148, y149, y150, y151, y152, y153, y154, y155, y156, y157, y158, y159, y160, y161, y162, y163, y164, y165, y166, y167, y168, y169], []⟩ w := by
  obtain ⟨qs, hK, hcell, hone⟩ := kt_of hT
  have hK' := hide hK
  have hql := hK.len
  have B0 := hide (show Below w.heap.size w (w.alloc (.cells #[] 33)) from (Below.refl _ _).alloc (Nat.le_refl _) _)
  have O0 := hide (show World.ownsRow (w.alloc (.cells #[] 33)) w.heap.size 33 4 (.slice (some ⟨w.heap.size, 0, none⟩) 0 0) 0 [] from ownQ_lit0 w (Nat.le_refl _))
  have hc2 : Hid (∀ i u, (flQ qs)[i]? = some u → (w.alloc (.cells #[] 33)).cell? ((⟨J, 0, none⟩ : Addr).add i) = some u) := hide fun i u hu => by
    have h := hcell i u hu
    have hlt := World.block_lt_of_cell? _ _ h
    rw [← h]
    exact World.cell?_of_block ((unhide B0).block _ hlt)
  have hone' := hide hone
  have hfl : Hid ((flQ qs).length = ts.length * 4) := hide (by rw [flQ_len, hql])
  obtain ⟨i0, hi, hz0, hz1, hz2⟩ := info_parts infoT
  clear hK hcell hone hT hql
  simp only [sdc, rft, Try.f4, Option.getD_some]
  go_wp2_with (at_builtin; refine wpList_append_lies _ rfl _ _ 24 rfl w.heap.size 33 i0 (.agg #[.int .i64 0, .int .i64 0, .slice none 0 0, .int .i64 0]) 4 48 Try.underlying24 hi hz0 hz1 hz2 rfl (by decide) _ 0 [] rfl (unhide O0) ⟨J, 0, none⟩ ts.length cJ (flQ qs) rfl (unhide hfl) (unhide hc2) (unhide hone') hn0 (by unfold maxLen; omega) (by omega) (by simp) _ rfl ?_)
  intro g cp w1 ho hgr hat hlt
  have ho2 := hide (show OwnQ w1 w.heap.size g ts.length cp qs from ho)
  have hB2 := hide (show Below w.heap.size w w1 from below_grown2 (unhide B0) hgr)
  clear ho hgr hat hlt hc2 hone' hfl O0 B0 hi hz0 hz1 hz2
  go_wp2
  exact ⟨g, cp, ⟨rfl, rfl⟩, qs, unhide hK', unhide ho2, unhide hB2⟩
/-- one value is one more -/
def RG11 (W0 w : World) (g n cp : Nat) (qs : List Tq) (y3 y4 y8 : Value) (a' : Act) (w' : World) : Prop := ∃ T, a' = ⟨T, []⟩ ∧ T.size = 170 ∧ T[3]? = some y3 ∧ T[4]? = some y4 ∧ T[8]? = some y8 ∧ T[9]? = some (.slice (some ⟨g, 0, none⟩) n cp) ∧ OwnQ w' W0.heap.size g n cp qs ∧ Below W0.heap.size W0 w' ∧ ∀ k, k ≠ g → w'.heap[k]? = w.heap[k]?
set_option maxRecDepth 100000 in
set_option maxHeartbeats 4000000 in
theorem gl_11 {W0 w : World} {ts : List Tv} {ch : List Int} {qs : List Tq} {x : Tq} {c0 C cC g cp : Nat} (hI : Ins w (some ⟨C, 0, none⟩) ch) (hc : ch[0]? = some (c0 : Int)) (ho : OwnQ w W0.heap.size g ts.length cp qs) (hx : qs[c0]? = some x) (x0 : 0 ≤ x.2.1) (x1 : x.2.1 < 10000000) (hb : Below W0.heap.size W0 w) (hl : ch.length ≤ 1000) (hn : ts.length ≤ 1000) (y0 y1 y2 y3 y5 y6 y7 y8 y10 y11 y12 y13 y14 y15 y16 y17 y18 y19 y20 y21 y22 y23 y24 y25 y26 y27 y28 y29 y30 y31 y32 y33 y34 y35 y36 y37 y38 y39 y40 y41 y42 y43 y44 y45 y46 y47 y48 y49 y50 y51 y52 y53 y54 y55 y56 y57 y58 y59 y60 y61 y62 y63 y64 y65 y66 y67 y68 y69 y70 y71 y72 y73 y74 y75 y76 y77 y78 y79 y80 y81 y82 y83 y84 y85 y86 y87 y88 y89 y90 y91 y92 y93 y94 y95 y96 y97 y98 y99 y100 y101 y102 y103 y104 y105 y106 y107 y108 y109 y110 y111 y112 y113 y114 y115 y116 y117 y118 y119 y120 y121 y122 y123 y124 y125 y126 y127 y128 y129 y130 y131 y132 y133 y134 y135 y136 y137 y138 y139 y140 y141 y142 y143 y144 y145 y146 y147 y148 y149 y150 y151 y152 y153 y154 y155 y156 y157 y158 y159 y160 y161 y162 y163 y164 y165 y166 y167 y168 y169 : Value) :
    (rft (sdc 11 (Try.f4.body.getD .skip))).wp Try.prog (fun e a' w' => e = .normal ∧ RG11 W0 w g ts.length cp (qs.set c0 (x.1, x.2.1 + 1, x.2.2)) y3 (.slice (some ⟨C, 0, none⟩) ch.length cC) y8 a' w') ⟨#[y0, y1, y2, y3, .slice (some ⟨C, 0, none⟩) ch.length cC, y5, y6, y7, y8, .slice (some ⟨g, 0, none⟩) ts.length cp, y10, y11, y12, y13, y14, y15, y16, y17, y18, y19, y20, y21, y22, y23, y24, y25, y26, y27, y28, y29, y30, y31, y32, y33, y34, y35, y36, y37, y38, y39, y40, y41, y42, y43, y44, y45, y46, y47, y48, y49, y50, y51, y52, y53, y54, y55, y56, y57, y58, y59, y60, y61, y62, y63, y64, y65, y66, y67, y68, y69, y70, y71, y72, y73, y74, y75, y76, y77, y78, y79, y80, y81, y82, y83, y84, y85, y86, y87, y88, y89, y90, y91, y92, y93, y94, y95, y96, y97, y98, y99, y100, y101, y102, y103, y104, y105, y106, y107, y108, y109, y110, y111, y112, y113, y114, y115, y116, y117, y118, y119, y120, y121, y122, y123, y124, y125, y126, y127, y128, y129, y130, y131, y132, y133, y134, y135, y136, y137, y138, y139, y140, y141, y142, y143, y144, y145, y146, y147, y148, y149, y150, y151, y152, y153, y154, y155, y156, y157, y158, y159, y160, y161, y162, y163, y164, y165, y166, y167, y168, y169], []⟩ w := by
  have hcl : 0 < ch.length := (List.getElem?_eq_some_iff.1 hc).1
  obtain ⟨b1, o1, z, hae, hz, i1, e0⟩ := ins_at hI (Below.refl _ _) hcl
  injection hae with hae
  injection hae with hb2 ho2
  subst hb2
  subst ho2
  rw [hc] at hz
  injection hz with hz
  subst hz
  simp only [Nat.add_zero] at e0
  have hql : c0 < ts.length := by have := (List.getElem?_eq_some_iff.1 hx).1; have := Go.Proofs.Ytpmmimcafkillaa.ownQ_len ho; omega
  obtain ⟨d0, d1, d2, d3⟩ := ownQ_at ho hx
  have df := ho.frozenAt (c0 * 4 + 1)
  have hge := own_ge ho
  have hF := hide (fun d => show OwnQ ((w.drewN d).setCell ⟨g, c0 * 4 + 1, none⟩ (.int .i64 (x.2.1 + 1))) W0.heap.size g ts.length cp (qs.set c0 (x.1, x.2.1 + 1, x.2.2)) ∧ Below W0.heap.size W0 ((w.drewN d).setCell ⟨g, c0 * 4 + 1, none⟩ (.int .i64 (x.2.1 + 1))) ∧ ∀ k, k ≠ g → ((w.drewN d).setCell ⟨g, c0 * 4 + 1, none⟩ (.int .i64 (x.2.1 + 1))).heap[k]? = w.heap[k]? from
    ⟨by have h3 := (World.ownsRow.stored (w := w.drewN d) ho (c0 * 4 + 1) (iv (x.2.1 + 1))).1; rw [flQ_set1 hx] at h3; exact h3, (below_drewN hb d).setCell (p := ⟨g, c0 * 4 + 1, none⟩) hge _, fun k hk => by rw [heap_set_ne hk]; rfl⟩)
  clear hI hc ho hx hb d0 d2 d3
  simp only [sdc, rft, Try.f4, Option.getD_some]
  go_wp2_with fail
  go_region
  go_wp2
  exact ⟨_, rfl, rfl, rfl, rfl, rfl, rfl, unhide hF 1⟩
/-- the last loops -/
def RG15 (w : World) (y4 y8 y10 : Value) (a' : Act) (w' : World) : Prop := ∃ T, a' = ⟨T, []⟩ ∧ T.size = 170 ∧ T[4]? = some y4 ∧ T[8]? = some y8 ∧ T[10]? = some y10 ∧ Below w.heap.size w w'
theorem take_has {O : List Int} {m : Nat} {x k : Int} (h : O[m]? = some x) : (O.take (m + 1)).contains k = ((O.take m).contains k || (x == k)) := Go.Proofs.Ytpmmimcafkillaa.con_snoc h
set_option maxRecDepth 100000 in
set_option maxHeartbeats 6400000 in
theorem gl_15 {w : World} {A S U O : List Int} {R cR S10 cS U11 cU O12 cO : Nat} (hA : Ins w (some ⟨R, 0, none⟩) A) (hS : Ins w (some ⟨S10, 0, none⟩) S) (hU : Ins w (some ⟨U11, 0, none⟩) U) (hO : Ins w (some ⟨O12, 0, none⟩) O) (hn : S.length = A.length) (hc : ∀ k : Nat, k < A.length → (k : Int) ∉ O → S[k]? = A[k]? ∧ U[k]? = some 0) (hA2 : A.length ≤ 200) (hO2 : O.length ≤ 1000) (y0 y1 y2 y3 y4 y5 y6 y7 y9 y13 y14 y15 y16 y17 y18 y19 y20 y21 y22 y23 y24 y25 y26 y27 y28 y29 y30 y31 y32 y33 y34 y35 y36 y37 y38 y39 y40 y41 y42 y43 y44 y45 y46 y47 y48 y49 y50 y51 y52 y53 y54 y55 y56 y57 y58 y59 y60 y61 y62 y63 y64 y65 y66 y67 y68 y69 y70 y71 y72 y73 y74 y75 y76 y77 y78 y79 y80 y81 y82 y83 y84 y85 y86 y87 y88 y89 y90 y91 y92 y93 y94 y95 y96 y97 y98 y99 y100 y101 y102 y103 y104 y105 y106 y107 y108 y109 y110 y111 y112 y113 y114 y115 y116 y117 y118 y119 y120 y121 y122 y123 y124 y125 y126 y127 y128 y129 y130 y131 y132 y133 y134 y135 y136 y137 y138 y139 y140 y141 y142 y143 y144 y145 y146 y147 y148 y149 y150 y151 y152 y153 y154 y155 y156 y157 y158 y159 y160 y161 y162 y163 y164 y165 y166 y167 y168 y169 : Value) :
    (rft (sdc 15 (Try.f4.body.getD .skip))).wp Try.prog (fun e a' w' => e = .normal ∧ RG15 w y4 (.slice (some ⟨R, 0, none⟩) A.length cR) (.slice (some ⟨S10, 0, none⟩) S.length cS) a' w') ⟨#[y0, y1, y2, y3, y4, y5, y6, y7, .slice (some ⟨R, 0, none⟩) A.length cR, y9, .slice (some ⟨S10, 0, none⟩) S.length cS, .slice (some ⟨U11, 0, none⟩) U.length cU, .slice (some ⟨O12, 0, none⟩) O.length cO, y13, y14, y15, y16, y17, y18, y19, y20, y21, y22, y23, y24, y25, y26, y27, y28, y29, y30, y31, y32, y33, y34, y35, y36, y37, y38, y39, y40, y41, y42, y43, y44, y45, y46, y47, y48, y49, y50, y51, y52, y53, y54, y55, y56, y57, y58, y59, y60, y61, y62, y63, y64, y65, y66, y67, y68, y69, y70, y71, y72, y73, y74, y75, y76, y77, y78, y79, y80, y81, y82, y83, y84, y85, y86, y87, y88, y89, y90, y91, y92, y93, y94, y95, y96, y97, y98, y99, y100, y101, y102, y103, y104, y105, y106, y107, y108, y109, y110, y111, y112, y113, y114, y115, y116, y117, y118, y119, y120, y121, y122, y123, y124, y125, y126, y127, y128, y129, y130, y131, y132, y133, y134, y135, y136, y137, y138, y139, y140, y141, y142, y143, y144, y145, y146, y147, y148, y149, y150, y151, y152, y153, y154, y155, y156, y157, y158, y159, y160, y161, y162, y163, y164, y165, y166, y167, y168, y169], []⟩ w := by
  have hA' := hide hA
  have hS' := hide hS
  have hU' := hide hU
  have hO' := hide hO
  have hc' := hide hc
  have hn' := hide hn
  clear hA hS hU hO hc hn
  simp only [sdc, rft, Try.f4, Option.getD_some]
  go_wp2
  go_loopw [13] (fun u wr => ∃ (k d : Nat), k ≤ A.length ∧ u = .int .i64 k ∧ wr = w.drewN d) (fun u _ => A.length - (intOf u).toNat)
  case atStart => exact ⟨0, 0, by omega, rfl, rfl⟩
  case round =>
    obtain ⟨k, d, hk, rfl, rfl⟩ := hrel
    by_cases hlt : k < A.length
    rotate_left
    · obtain rfl : k = A.length := by omega
      have gk : decide ((A.length : Int) < A.length) = false := by simp
      go_wp2
      exact ⟨_, rfl, rfl, rfl, rfl, rfl, below_drewN (Below.refl _ _) d⟩
    have gk : decide ((k : Int) < A.length) = true := by simp; omega
    go_wp2
    go_loop [14, 15] (fun b u => ∃ (m : Nat) (bb : Bool), m ≤ O.length ∧ u = .int .i64 m ∧ b = .bool bb ∧ Hid (bb = (O.take m).contains (k : Int))) (fun _ u => O.length - (intOf u).toNat)
    case atStart => exact ⟨0, false, by omega, rfl, rfl, hide (by simp)⟩
    case round =>
      obtain ⟨m, bb, hm, rfl, rfl, hbb⟩ := hrel
      by_cases hml : m < O.length
      · have gm : decide ((m : Int) < O.length) = true := by simp; omega
        obtain ⟨b1, o1, x, hae, hx, i1, e0⟩ := ins_at (unhide hO') (Below.refl _ _) hml
        injection hae with hae
        injection hae with hb2 ho2
        subst hb2
        subst ho2
        rw [Nat.zero_add] at e0
        have hsn := hide (take_has (k := (k : Int)) hx)
        clear hx
        cases bb with
        | true =>
          have h2 := hide (show true = (O.take (m + 1)).contains (k : Int) by rw [unhide hsn, ← unhide hbb]; rfl)
          clear hsn hbb
          go_wp2
          go_round
          case rel => exact ⟨m + 1, true, by omega, by go_num, rfl, h2⟩
          case measure => simp [intOf]; omega
        | false =>
          cases hxk : x == (k : Int) with
          | true =>
            have h2 := hide (show true = (O.take (m + 1)).contains (k : Int) by rw [unhide hsn, hxk, Bool.or_true])
            clear hsn hbb
            go_wp2
            go_round
            case rel => exact ⟨m + 1, true, by omega, by go_num, rfl, h2⟩
            case measure => simp [intOf]; omega
          | false =>
            have h2 := hide (show false = (O.take (m + 1)).contains (k : Int) by rw [unhide hsn, hxk, ← unhide hbb]; rfl)
            clear hsn hbb
            go_wp2
            go_round
            case rel => exact ⟨m + 1, false, by omega, by go_num, rfl, h2⟩
            case measure => simp [intOf]; omega
      · obtain rfl : m = O.length := by omega
        have gm : decide ((O.length : Int) < O.length) = false := by simp
        have hin : bb = O.contains (k : Int) := by rw [unhide hbb, List.take_of_length_le (Nat.le_refl _)]
        clear hbb
        cases bb with
        | true =>
          clear hin
          go_wp2_with fail
          go_quiet (fail)
          go_wp2
          go_roundw
          case rel => exact ⟨k + 1, _, by omega, by go_num, rfl⟩
          case measure => simp [intOf]; omega
        | false =>
          have hno : (k : Int) ∉ O := fun h => by
            rw [← List.contains_iff_mem] at h
            rw [h] at hin
            cases hin
          obtain ⟨h1, h2⟩ := unhide hc' k hlt hno
          obtain ⟨z, hz⟩ : ∃ z, A[k]? = some z := ⟨_, List.getElem?_eq_getElem hlt⟩
          rw [hz] at h1
          have hkS := (List.getElem?_eq_some_iff.1 h1).1
          have hkU := (List.getElem?_eq_some_iff.1 h2).1
          obtain ⟨_, _, x1, hae, hx1, _, e1⟩ := ins_at (unhide hA') (Below.refl _ _) hlt
          injection hae with hae
          injection hae with hb2 ho2
          subst hb2
          subst ho2
          obtain ⟨_, _, x2, hae, hx2, _, e2⟩ := ins_at (unhide hS') (Below.refl _ _) hkS
          injection hae with hae
          injection hae with hb2 ho2
          subst hb2
          subst ho2
          obtain ⟨_, _, x3, hae, hx3, _, e3⟩ := ins_at (unhide hU') (Below.refl _ _) hkU
          injection hae with hae
          injection hae with hb2 ho2
          subst hb2
          subst ho2
          rw [hz] at hx1
          rw [h1] at hx2
          rw [h2] at hx3
          injection hx1 with hx1
          injection hx2 with hx2
          injection hx3 with hx3
          subst hx1
          subst hx2
          subst hx3
          rw [Nat.zero_add] at e1 e2 e3
          have q1 : (z != z) = false := by simp
          clear hz h1 h2 hin hno
          go_wp2_with fail
          go_quiet (fail)
          go_wp2
          go_roundw
          case rel => exact ⟨k + 1, _, by omega, by go_num, rfl⟩
          case measure => simp [intOf]; omega
/-- the last region -/
def RG16 (w : World) (a' : Act) (w' : World) : Prop := ∃ T, a' = ⟨T, []⟩ ∧ T.size = 170 ∧ T[2]? = some (.bool true) ∧ Below w.heap.size w w'
set_option maxRecDepth 100000 in
set_option maxHeartbeats 4000000 in
theorem gl_16 {w : World} {ch A S : List Int} {c0 C cC R cR S10 cS : Nat} {x y : Int} (hI : Ins w (some ⟨C, 0, none⟩) ch) (hc : ch[0]? = some (c0 : Int)) (hA : Ins w (some ⟨R, 0, none⟩) A) (hS : Ins w (some ⟨S10, 0, none⟩) S) (hn : S.length = A.length) (hx : A[c0]? = some x) (hy : S[c0]? = some y) (hne : y ≠ x) (hl : ch.length ≤ 1000) (hA2 : A.length ≤ 200) (y0 y1 y2 y3 y5 y6 y7 y9 y11 y12 y13 y14 y15 y16 y17 y18 y19 y20 y21 y22 y23 y24 y25 y26 y27 y28 y29 y30 y31 y32 y33 y34 y35 y36 y37 y38 y39 y40 y41 y42 y43 y44 y45 y46 y47 y48 y49 y50 y51 y52 y53 y54 y55 y56 y57 y58 y59 y60 y61 y62 y63 y64 y65 y66 y67 y68 y69 y70 y71 y72 y73 y74 y75 y76 y77 y78 y79 y80 y81 y82 y83 y84 y85 y86 y87 y88 y89 y90 y91 y92 y93 y94 y95 y96 y97 y98 y99 y100 y101 y102 y103 y104 y105 y106 y107 y108 y109 y110 y111 y112 y113 y114 y115 y116 y117 y118 y119 y120 y121 y122 y123 y124 y125 y126 y127 y128 y129 y130 y131 y132 y133 y134 y135 y136 y137 y138 y139 y140 y141 y142 y143 y144 y145 y146 y147 y148 y149 y150 y151 y152 y153 y154 y155 y156 y157 y158 y159 y160 y161 y162 y163 y164 y165 y166 y167 y168 y169 : Value) :
    (rft (sdc 16 (Try.f4.body.getD .skip))).wp Try.prog (fun e a' w' => e = .normal ∧ RG16 w a' w') ⟨#[y0, y1, y2, y3, .slice (some ⟨C, 0, none⟩) ch.length cC, y5, y6, y7, .slice (some ⟨R, 0, none⟩) A.length cR, y9, .slice (some ⟨S10, 0, none⟩) S.length cS, y11, y12, y13, y14, y15, y16, y17, y18, y19, y20, y21, y22, y23, y24, y25, y26, y27, y28, y29, y30, y31, y32, y33, y34, y35, y36, y37, y38, y39, y40, y41, y42, y43, y44, y45, y46, y47, y48, y49, y50, y51, y52, y53, y54, y55, y56, y57, y58, y59, y60, y61, y62, y63, y64, y65, y66, y67, y68, y69, y70, y71, y72, y73, y74, y75, y76, y77, y78, y79, y80, y81, y82, y83, y84, y85, y86, y87, y88, y89, y90, y91, y92, y93, y94, y95, y96, y97, y98, y99, y100, y101, y102, y103, y104, y105, y106, y107, y108, y109, y110, y111, y112, y113, y114, y115, y116, y117, y118, y119, y120, y121, y122, y123, y124, y125, y126, y127, y128, y129, y130, y131, y132, y133, y134, y135, y136, y137, y138, y139, y140, y141, y142, y143, y144, y145, y146, y147, y148, y149, y150, y151, y152, y153, y154, y155, y156, y157, y158, y159, y160, y161, y162, y163, y164, y165, y166, y167, y168, y169], []⟩ w := by
  have hcl : 0 < ch.length := (List.getElem?_eq_some_iff.1 hc).1
  have hAl := (List.getElem?_eq_some_iff.1 hx).1
  have hSl := (List.getElem?_eq_some_iff.1 hy).1
  have q0 : ((S.length : Int) == A.length) = true := by rw [hn]; simp
  have q1 : (y != x) = true := by simp [hne]
  obtain ⟨_, _, z, hae, hz, _, e0⟩ := ins_at hI (Below.refl _ _) hcl
  injection hae with hae
  injection hae with hb2 ho2
  subst hb2
  subst ho2
  rw [hc] at hz
  injection hz with hz
  subst hz
  simp only [Nat.add_zero] at e0
  obtain ⟨_, _, x1, hae, hx1, _, e1⟩ := ins_at hA (Below.refl _ _) hAl
  injection hae with hae
  injection hae with hb2 ho2
  subst hb2
  subst ho2
  rw [hx] at hx1
  injection hx1 with hx1
  subst hx1
  obtain ⟨_, _, x2, hae, hx2, _, e2⟩ := ins_at hS (Below.refl _ _) hSl
  injection hae with hae
  injection hae with hb2 ho2
  subst hb2
  subst ho2
  rw [hy] at hx2
  injection hx2 with hx2
  subst hx2
  rw [Nat.zero_add] at e1 e2
  clear hI hc hA hS hx hy hn hne
  simp only [sdc, rft, Try.f4, Option.getD_some]
  go_wp2_with fail
  go_quiet (fail)
  go_wp2
  exact ⟨_, rfl, rfl, rfl, below_drewN (Below.refl _ _) _⟩
end Go.Proofs.Ytpmmimcafkillaa.Tr
