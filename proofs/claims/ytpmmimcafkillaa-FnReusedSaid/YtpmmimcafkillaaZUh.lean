/-
  The draw of a job; nothing that was there is written but for the cursor.
  The draw of a farm: a job and how many work; nothing that was there is written. Is the code too long?
-/
import Derived.Test.YtpmmimcafkillaaZUg
import Derived.BigQuiet
import Derived.Deep.CutRange
import Derived.Deep.CutBlock
import Derived.Deep.RegionLaw
namespace Go.Proofs.Ytpmmimcafkillaa
open Go.RowKit
set_option linter.unusedVariables false
set_option linter.unusedSimpArgs false
/-- a job that is drawn -/
def JbR (w : World) (B g : Nat) (a : Option Addr) (len cap : Nat) (e : Ending) (w' : World) : Prop := ∃ G n c vs, e = .returned (.slice (some ⟨G, 0, none⟩) n c) ∧ n ≤ 210 ∧ JS 4 w B g a len cap w' G n c vs
theorem JbR.mk {w w' : World} {B g G n c len cap : Nat} {a : Option Addr} {vs : List Tq} (hn : n ≤ 210) (h : JS 4 w B g a len cap w' G n c vs) : JbR w B g a len cap (.returned (.slice (some ⟨G, 0, none⟩) n c)) w' := ⟨G, n, c, vs, rfl, hn, h⟩
theorem ownV_one {w : World} {B n : Nat} {v : Value} {L : List Int} (h : OwnV w B v n L) : v.oneCell' = true := by
  rcases h.2 with ⟨h1, _⟩ | ⟨g, cap, cur, h1, _⟩ <;> subst h1 <;> rfl
theorem ownQ_lit0 (w : World) {B : Nat} (hB : B ≤ w.heap.size) : OwnQ (w.alloc (.cells #[] 33)) B w.heap.size 0 0 [] := by
  have h := World.ownsRow_lit (base := B) (e := 33) (size := 4) w #[] 0 hB (by unfold maxLen; omega) rfl
  exact h
/-- a task that is being drawn -/
structure JB (w : World) (B g : Nat) (a : Option Addr) (len cap : Nat) (wk : World) (k0 v0 : Int) (nv : Value) (c0 : Int) (m : Nat) (L : List Int) (wr : World) : Prop where
  ds : DS w B g a len cap wr
  gr : wk.grownBy wr (some g)
  box : wr.heap[wk.heap.size]? = some (.cells #[iv k0, iv v0, nv, iv c0] 33 (0, 0))
  nd : OwnV wr wk.heap.size nv m L
section
variable {w wk wr w1 : World} {B g len cap G n c m : Nat} {a : Option Addr} {vs : List Tq} {k0 v0 c0 : Int} {nv : Value} {L : List Int}
theorem JS.new (w : World) (hc : CurAt w g a len cap) (hr : RdB w B a len) (hB : B ≤ g) : JS 3 w B g a len cap (w.alloc (.cells #[] 33)) w.heap.size 0 0 [] :=
  ⟨(⟨hc, hr, grown_refl _ _⟩ : DS w B g a len cap w).later hB ((Below.refl _ _).alloc (Nat.le_refl _) _), ownQ_lit0 w (Nat.le_refl _), fun j q hq => by simp at hq, fun i j p q hp => by simp at hp⟩
theorem JS.re (h : JS 4 w B g a len cap wr G n c vs) (hB : B ≤ g) : JS 4 w B g a len cap (wr.alloc (.cells #[] 33)) wr.heap.size 0 0 [] :=
  ⟨h.ds.later hB ((Below.refl _ _).alloc (Nat.le_refl _) _), ownQ_lit0 wr h.ds.gr.size, fun j q hq => by simp at hq, fun i j p q hp => by simp at hp⟩
theorem JS.grown (h : JS 3 w B g a len cap wk G n c vs) (hg : g < w.heap.size) (hd : DS w B g a len cap wr) (hgr : wk.grownBy wr (some g)) : JS 3 w B g a len cap wr G n c vs :=
  h.keep hd (hgr.block G h.G_lt.2 (by intro e; injection e with e; have := h.G_lt.1; omega)) fun k cur h1 h2 _ => hgr.block k (Array.getElem?_eq_some_iff.1 h2).1 (by intro e; injection e with e; omega)
theorem JB.new (h : JS 3 w B g a len cap wk G n c vs) (hB : B ≤ g) : JB w B g a len cap wk k0 v0 (.slice none 0 0) c0 0 [] (wk.alloc (.cells #[.int .i64 k0, .int .i64 v0, .slice none 0 0, .int .i64 c0] 33)) :=
  have hb : Below wk.heap.size wk (wk.alloc (.cells #[.int .i64 k0, .int .i64 v0, .slice none 0 0, .int .i64 c0] 33)) := (Below.refl _ _).alloc (Nat.le_refl _) _
  ⟨h.ds.later hB hb, grown_belowD hb, heap_alloc_new wk _, ownV_nil _ _⟩
theorem JB.lt (h : JB w B g a len cap wk k0 v0 nv c0 m L wr) : wk.heap.size < wr.heap.size := (Array.getElem?_eq_some_iff.1 h.box).1
theorem JB.call (h : JB w B g a len cap wk k0 v0 nv c0 m L wr) (hB : B ≤ g) (hg : g < w.heap.size) (hw : w.heap.size ≤ wk.heap.size) (hc : CurAt w1 g a len cap) (hgr : wr.grownBy w1 (some g)) : JB w B g a len cap wk k0 v0 nv c0 m L w1 :=
  ⟨h.ds.step hB hc hgr, grown_trans h.gr hgr, (hgr.block _ h.lt (by intro e; injection e with e; omega)).trans h.box, ownV_keep h.nd fun k hk => hgr.block k (ownV_blk h.nd hk).2.1 (by intro e; injection e with e; have := (ownV_blk h.nd hk).1; omega)⟩
theorem JB.cell (h : JB w B g a len cap wk k0 v0 nv c0 m L wr) : wr.cell? ⟨wk.heap.size, 2, none⟩ = some nv ∧ wr.frozen? ⟨wk.heap.size, 2, none⟩ = false := by
  have := h.box
  exact ⟨by simp [World.cell?, this], by simp [World.frozen?, this]⟩
theorem JB.cells (h : JB w B g a len cap wk k0 v0 nv c0 m L wr) : wr.cell? ⟨wk.heap.size, 0, none⟩ = some (.int .i64 k0) ∧ wr.cell? ⟨wk.heap.size, 1, none⟩ = some (.int .i64 v0) ∧ wr.cell? ⟨wk.heap.size, 2, none⟩ = some nv ∧ wr.cell? ⟨wk.heap.size, 3, none⟩ = some (.int .i64 c0) := by
  have := h.box
  exact ⟨by simp [World.cell?, this], by simp [World.cell?, this], by simp [World.cell?, this], by simp [World.cell?, this]⟩
theorem JB.box1 (h : JB w B g a len cap wk k0 v0 nv c0 m L wr) (hgr : wr.grownBy w1 nv.ownBlock) : w1.cell? ⟨wk.heap.size, 2, none⟩ = some nv ∧ w1.frozen? ⟨wk.heap.size, 2, none⟩ = false ∧ wk.heap.size < w1.heap.size := by
  have hb1 : w1.heap[wk.heap.size]? = some (.cells #[iv k0, iv v0, nv, iv c0] 33 (0, 0)) := (hgr.block _ h.lt fun e => by
    obtain ⟨_, _, cur', h2⟩ := ownV_blk h.nd e.symm
    rw [h.box] at h2
    injection h2 with h2
    injection h2 with _ h2
    exact absurd h2 (by decide)).trans h.box
  exact ⟨by simp [World.cell?, hb1], by simp [World.frozen?, hb1], (Array.getElem?_eq_some_iff.1 hb1).1⟩
theorem JB.fin {nL G' c' : Nat} (h : JB w B g a len cap wk k0 v0 nv c0 m L wr) (s : JS 3 w B g a len cap wk G n c vs) (hB : B ≤ g) (hg : g < w.heap.size) (hm : m ≤ 3) (ho : OwnQ w1 w.heap.size G' (n + 1) c' (vs ++ [(k0, v0, nv, c0)])) (hgr : wr.grownBy w1 (some G)) : JS 3 w B g a len cap w1 G' (n + 1) c' (vs ++ [(k0, v0, nv, c0)]) :=
  (s.grown hg h.ds h.gr).app hB hg (own_mono h.nd s.ds.gr.size) hm (fun j p hp k hk e => by
    obtain ⟨_, _, h1, _⟩ := s.nd j p hp
    have := (ownV_blk h1 hk).2.1
    have := (ownV_blk h.nd e).1
    omega) ho hgr
theorem JB.app {G' c' : Nat} {z : Int} (h : JB w B g a len cap wk k0 v0 nv c0 m L wr) (hB : B ≤ g) (hg : g < w.heap.size) (hw : w.heap.size ≤ wk.heap.size) (ho : OwnV w1 wk.heap.size (.slice (some ⟨G', 0, none⟩) (m + 1) c') (m + 1) (L ++ [z])) (hgr : wr.grownBy w1 nv.ownBlock) :
    JB w B g a len cap wk k0 v0 (.slice (some ⟨G', 0, none⟩) (m + 1) c') c0 (m + 1) (L ++ [z]) (w1.setCell ⟨wk.heap.size, 2, none⟩ (.slice (some ⟨G', 0, none⟩) (m + 1) c')) := by
  have hne : ∀ {w' : World} {v : Value} {m' : Nat} {L' : List Int} {cur : Array Value}, w'.heap[wk.heap.size]? = some (.cells cur 33 (0, 0)) → OwnV w' wk.heap.size v m' L' → ∀ k, v.ownBlock = some k → k ≠ wk.heap.size := by
    intro w' v m' L' cur hb hv k hk e
    subst e
    obtain ⟨_, _, cur', h2⟩ := ownV_blk hv hk
    rw [hb] at h2
    injection h2 with h2
    injection h2 with _ h2
    exact absurd h2 (by decide)
  have hb1 : w1.heap[wk.heap.size]? = some (.cells #[iv k0, iv v0, nv, iv c0] 33 (0, 0)) := (hgr.block _ h.lt fun e => hne h.box h.nd _ e.symm rfl).trans h.box
  have hd1 : DS w B g a len cap w1 ∧ wk.grownBy w1 (some g) := by
    cases hb : nv.ownBlock with
    | none =>
      rw [hb] at hgr
      have h2 : ∀ y, wr.grownBy w1 (some y) := fun y => ⟨hgr.os, hgr.tape, hgr.output, hgr.size, fun j hj _ => hgr.block j hj (by simp)⟩
      exact ⟨ds_own h.ds hB hg (Nat.le_refl _) (h2 _), grown_trans h.gr (h2 _)⟩
    | some y =>
      rw [hb] at hgr
      have h1 := (ownV_blk h.nd hb).1
      exact ⟨ds_own h.ds hB hg (by omega) hgr, ⟨hgr.os.trans h.gr.os, hgr.tape.trans h.gr.tape, hgr.output.trans h.gr.output, Nat.le_trans h.gr.size hgr.size, fun k hk hn => (hgr.block k (Nat.lt_of_lt_of_le hk h.gr.size) (by intro e; injection e with e; omega)).trans (h.gr.block k hk hn)⟩⟩
  have hs0 := grown_set0 w1 wk.heap.size 2 (.slice (some ⟨G', 0, none⟩) (m + 1) c')
  refine ⟨ds_own hd1.1 hB hg hw hs0, ⟨hs0.os.trans hd1.2.os, hs0.tape.trans hd1.2.tape, hs0.output.trans hd1.2.output, Nat.le_trans hd1.2.size hs0.size, fun k hk hn => ?_⟩, heap_set_at hb1, ownV_keep ho fun k hk => heap_set_ne (hne hb1 ho k hk)⟩
  rw [heap_set_ne (by omega)]
  exact hd1.2.block k hk hn
end
theorem step_iV {ops : Array Oper} {o : Oper} {a : Act} {K : Act → World → Prop} {Q : Exit → Act → World → Prop} {E' : Prop} (w : World) (hgd : o.guard = none) (s x : Operand) (ho : o.op = .call { callee := .builtin .append, args := #[s, x], argTypes := #[29, 29] })
    (B n : Nat) (u : Value) (L : List Int) (v : Int) (hs : a.eval s = u) (hown : OwnV w B u n L) (E : Nat) (hx : a.eval x = .slice (some ⟨E, 0, none⟩) 1 1) (hblk : w.heap[E]? = some (.cells #[.int .i64 v] 2 (0, 0)))
    (hl : n ≤ 1000000) (hB : B ≤ w.heap.size)
    (h : ∀ g' cap' w', OwnV w' B (.slice (some ⟨g', 0, none⟩) (n + 1) cap') (n + 1) (L ++ [v]) → w.grownBy w' u.ownBlock → (u.ownBlock = some g' ∨ w.heap.size ≤ g') → K (a.put o.dst (.slice (some ⟨g', 0, none⟩) (n + 1) cap')) w') :
    if Region.wanted o (yielded ops a.tmps) = true then Oper.wp Try.prog o a w K Q else E' := by
  obtain ⟨i0, hi, hz0, hz1, hz2⟩ := info_parts infoI
  refine step_append_lies w hgd s x 29 ho B 2 i0 (.int .i64 0) 1 8 Try.underlying29 hi hz0 hz1 hz2 rfl (by decide) _ n (L.map iv) hs hown ⟨E, 0, none⟩ 1 1 [iv v] hx rfl (iv_news hblk) (by intro u hu; simp at hu; subst hu; rfl) (by decide) (by unfold maxLen; omega) (by omega) (by omega) w.heap.size rfl ?_
  intro g' cap' w' h1 h2 h3 h4
  exact h g' cap' w' (by show World.ownsRow _ _ _ _ _ _ _; rw [List.map_append]; exact h1) h2 (by rcases h3 with h3 | h3; exact .inl h3; exact .inr (by omega))
theorem al2 (w : World) (o o' : Obj) : ((w.alloc o).alloc o').heap[w.heap.size + 1]? = some o' := by
  have h := heap_alloc_new (w.alloc o) o'
  rw [show (w.alloc o).heap.size = w.heap.size + 1 from by simp] at h
  exact h
theorem ownV_al {w : World} {B n : Nat} {v : Value} {L : List Int} {o : Obj} (h : OwnV w B v n L) : OwnV (w.alloc o) B v n L := ownsRow_below h ((Below.refl _ _).alloc (Nat.le_refl _) _)
theorem JS.al {M : Nat} {w wr : World} {B g len cap G n c : Nat} {a : Option Addr} {vs : List Tq} {o : Obj} (h : JS M w B g a len cap wr G n c vs) (hB : B ≤ g) : JS M w B g a len cap (wr.alloc o) G n c vs := h.later hB ((Below.refl _ _).alloc (Nat.le_refl _) _)
theorem JS.rowk {M : Nat} {w wr w1 : World} {B g len cap G n c q : Nat} {a : Option Addr} {vs : List Tq} {x : Tq} (h : JS M w B g a len cap wr G n c vs) (hq : vs[q]? = some x) (hgr : wr.grownBy w1 x.2.2.1.ownBlock) : w1.cell? ⟨G, q * 4 + 2, none⟩ = some x.2.2.1 ∧ w1.frozen? ⟨G, q * 4 + 2, none⟩ = false ∧ G < w1.heap.size := by
  obtain ⟨_, _, h1, _⟩ := h.nd q x hq
  have hb : w1.heap[G]? = wr.heap[G]? := hgr.block G h.G_lt.2 fun e => ne_GT h h1 G e.symm rfl
  exact ⟨(World.cell?_of_block (a := ⟨G, q * 4 + 2, none⟩) hb).trans (ownQ_at h.row hq).2.2.1, (World.frozen?_of_block (a := ⟨G, q * 4 + 2, none⟩) hb).trans (h.row.frozenAt _), Nat.lt_of_lt_of_le h.G_lt.2 hgr.size⟩
theorem lit3 {w : World} {T : TypeId} {k : Nat} {a0 a1 a2 : Int} (hk : k < 3) : ∃ v : Int, (w.alloc (.cells #[.int .i64 a0, .int .i64 a1, .int .i64 a2] T)).cell? ⟨w.heap.size, k, none⟩ = some (.int .i64 v) := by
  match k, hk with
  | 0, _ => exact ⟨a0, by simp [go_sem]⟩
  | 1, _ => exact ⟨a1, by simp [go_sem]⟩
  | 2, _ => exact ⟨a2, by simp [go_sem]⟩
set_option maxRecDepth 100000 in
set_option maxHeartbeats 6400000 in
theorem djb_any (B g : Nat) (a : Option Addr) (len cap : Nat) (w : World) (hB : B ≤ g) (hl : len ≤ 9223372036854775807) (hc : CurAt w g a len cap) (hr : RdB w B a len) :
    Calls Try.prog 36 #[.pointer (some ⟨g, 0, none⟩)] w (JbR w B g a len cap) := by
  have hgl := hc.lt
  have S0 := hide (JS.new w hc hr hB)
  clear hc hr
  go_enter Try.func36, Try.ntmps36
  go_wp2_with fail
  refine (below_any B g a len cap 12 _ hB hl (unhide S0).ds.cur (unhide S0).ds.rd (by omega)).mono ?_
  rintro e w1 ⟨x1, rfl, x10, x11, k1, g1⟩
  obtain ⟨n1, rfl⟩ := Int.eq_ofNat_of_zero_le x10
  have S1 := hide ((unhide S0).call hB hgl k1 g1)
  clear k1 g1 S0
  go_wp2
  go_loopw [3, 4] (fun s t wr => ∃ (n nL G cv : Nat) (vs : List Tq), t = .int .i64 n ∧ s = .slice (some ⟨G, 0, none⟩) nL cv ∧ nL + n ≤ 12 ∧ Hid (JS 3 w B g a len cap wr G nL cv vs)) (fun _ t _ => (intOf t).toNat)
  case atStart => exact ⟨n1, 0, w.heap.size, 0, [], rfl, rfl, by omega, S1⟩
  case round =>
    clear S1
    obtain ⟨n, nL, G, cv, vs, rfl, rfl, hn, hS⟩ := hrel
    obtain ⟨wo, rfl⟩ : ∃ x, x = wr := ⟨wr, rfl⟩
    by_cases hpos : 0 < n
    · obtain ⟨m, rfl⟩ : ∃ m, n = m + 1 := ⟨n - 1, by omega⟩
      go_wp2_with fail
      refine (below_any B g a len cap 4 _ hB hl (unhide hS).ds.cur (unhide hS).ds.rd (by omega)).mono ?_
      rintro e w2 ⟨x2, rfl, x20, x21, k2, g2⟩
      have S2 := hide ((unhide hS).call hB hgl k2 g2)
      clear k2 g2 hS
      go_wp2_with fail
      refine (below_any B g a len cap 5 _ hB hl (unhide S2).ds.cur (unhide S2).ds.rd (by omega)).mono ?_
      rintro e w3 ⟨x3, rfl, x30, x31, k3, g3⟩
      have S3 := hide ((unhide S2).call hB hgl k3 g3)
      clear k3 g3 S2
      go_wp2_with fail
      refine (below_any B g a len cap 9 _ hB hl (unhide S3).ds.cur (unhide S3).ds.rd (by omega)).mono ?_
      rintro e w4 ⟨x4, rfl, x40, x41, k4, g4⟩
      have S4 := hide ((unhide S3).call hB hgl k4 g4)
      clear k4 g4 S3
      have hws := (unhide S4).ds.gr.size
      obtain ⟨y4, hy4⟩ : ∃ y : Int, 1 + x4 = y := ⟨_, rfl⟩
      have N0 := hide (JB.new (k0 := x2) (v0 := x3) (c0 := y4) (unhide S4) hB)
      go_wp2_with fail
      refine (below_any B g a len cap 3 _ hB hl (unhide N0).ds.cur (unhide N0).ds.rd (by omega)).mono ?_
      rintro e w5 ⟨x5, rfl, x50, x51, k5, g5⟩
      obtain ⟨n5, rfl⟩ := Int.eq_ofNat_of_zero_le x50
      have N1 := hide ((unhide N0).call hB hgl hws k5 g5)
      clear k5 g5 N0
      go_wp2
      go_loopw [6, 7] (fun s t wr => ∃ (k mm : Nat) (at_ : Int) (v : Value) (L : List Int), t = .int .i64 k ∧ s = .int .i64 at_ ∧ mm + k ≤ 3 ∧ -1 ≤ at_ ∧ at_ + 3 * k ≤ 8 ∧ Hid (JB w B g a len cap w4 x2 x3 v y4 mm L wr)) (fun _ t _ => (intOf t).toNat)
      case atStart => exact ⟨n5, 0, -1, _, [], rfl, rfl, by omega, by omega, by omega, N1⟩
      case round =>
        clear N1
        obtain ⟨k, mm, at_, v, L, rfl, rfl, hmk, ha0, ha1, hN⟩ := hrel
        by_cases hk : 0 < k
        · obtain ⟨k, rfl⟩ : ∃ q, k = q + 1 := ⟨k - 1, by omega⟩
          go_wp2_with fail
          refine (below_any B g a len cap 3 _ hB hl (unhide hN).ds.cur (unhide hN).ds.rd (by omega)).mono ?_
          rintro e w6 ⟨x6, rfl, x60, x61, k6, g6⟩
          have N2 := hide ((unhide hN).call hB hgl hws k6 g6)
          clear k6 g6 hN
          by_cases hin : at_ + 1 + x6 < nL
          · obtain ⟨b2, f2⟩ := (unhide N2).cell
            have hl6 := (unhide N2).lt
            go_wp2_with (at_builtin; refine wpList_iV w6 rfl _ _ rfl w4.heap.size mm v L (at_ + 1 + x6) rfl (unhide N2).nd rfl (by omega) (Nat.le_of_lt hl6) ?_)
            intro G' c' w7 ho hgr _
            have N3 := hide ((unhide N2).app hB hgl hws ho hgr)
            obtain ⟨b3, f3, l3⟩ := (unhide N2).box1 hgr
            clear ho hgr N2 b2 f2
            go_wp2
            go_roundw
            case rel => exact ⟨k, mm + 1, at_ + 1 + x6, _, _, by go_num, rfl, by omega, by omega, by omega, N3⟩
            case measure => simp [intOf]
          · go_wp2
            go_roundw
            case rel => exact ⟨k, mm, at_ + 1 + x6, v, L, by go_num, rfl, by omega, by omega, by omega, N2⟩
            case measure => simp [intOf]
        · obtain rfl : k = 0 := by omega
          have S5 := hide ((unhide S4).grown hgl (unhide hN).ds (unhide hN).gr)
          obtain ⟨b0, b1, b2, b3⟩ := (unhide hN).cells
          have hlr := (unhide hN).lt
          have h1c := ownV_one (unhide hN).nd
          have hwr := (unhide S5).ds.gr.size
          go_wp2_with (at_builtin; refine wpList_qG _ rfl _ _ rfl w.heap.size G nL cv vs (x2, x3, v, y4) h1c rfl (unhide S5).row rfl (by omega) hwr ?_)
          intro G' c' w8 ho hgr
          have S6 := hide ((unhide hN).fin (nL := nL) (unhide S4) hB hgl (by omega) ho hgr)
          clear ho hgr hN S5 S4 b0 b1 b2 b3
          go_wp2
          go_roundw
          case rel => exact ⟨m, nL + 1, G', c', _, by go_num, rfl, by omega, S6⟩
          case measure => simp [intOf]
    · obtain rfl : n = 0 := by omega
      have hn12 : nL ≤ 12 := by omega
      go_upto_region 14 with fail
      go_cut [56] from 50 (fun c wx => ∃ b : Bool, c = .bool b ∧ (b = true → 0 < nL) ∧ Hid (JS 3 w B g a len cap wx G nL cv vs))
      case first =>
        go_wp2_with fail
        refine (once_any B g a len cap 16 _ hB hl (unhide hS).ds.cur (unhide hS).ds.rd (by omega)).mono ?_
        rintro e w5 ⟨x5, rfl, k5, g5⟩
        have S5 := hide ((unhide hS).call hB hgl k5 g5)
        clear k5 g5 hS
        cases x5
        · go_wp2
          go_meet
          exact ⟨false, rfl, by simp, S5⟩
        · go_wp2
          go_meet
          first | exact ⟨decide (0 < nL), rfl, of_decide_eq_true, S5⟩ | exact ⟨decide ((0 : Int) < (nL : Int)), rfl, fun h => by have := of_decide_eq_true h; omega, S5⟩
      case rest =>
      obtain ⟨bb, h56, hL0, S5⟩ := hcut
      subst h56
      clear hS
      go_upto_if 56 with fail
      go_cut [8] from 50 (fun q8 wx => ∃ vs', Hid (JS 4 w B g a len cap wx G nL cv vs'))
      case first =>
        cases bb with
        | false =>
          go_wp2
          go_meet
          exact ⟨vs, hide ((unhide S5).weak (by omega))⟩
        | true =>
        have hz := hL0 rfl
        have hvl := ownQ_len (unhide S5).row
        go_wp2_with fail
        refine (below_any B g a len cap nL _ hB hl (unhide S5).ds.cur (unhide S5).ds.rd (by omega)).mono ?_
        rintro e w6 ⟨x6, rfl, x60, x61, k6, g6⟩
        obtain ⟨q, rfl⟩ := Int.eq_ofNat_of_zero_le x60
        have S6 := hide ((unhide S5).call hB hgl k6 g6)
        clear k6 g6 S5
        have hql : q < vs.length := by omega
        obtain ⟨y, hy⟩ : ∃ y, vs[q]? = some y := ⟨_, List.getElem?_eq_getElem hql⟩
        have hy' := hide hy
        clear hy
        go_wp2_with fail
        refine (below_any B g a len cap 4 _ hB hl (unhide S6).ds.cur (unhide S6).ds.rd (by omega)).mono ?_
        rintro e w7 ⟨x7, rfl, x70, x71, k7, g7⟩
        have S7 := hide ((unhide S6).call hB hgl k7 g7)
        clear k7 g7 S6
        obtain rfl | rfl | rfl | rfl : x7 = 0 ∨ x7 = 1 ∨ x7 = 2 ∨ x7 = 3 := by omega
        · have hla := hide (fun k (hk : k < 3) => lit3 (w := w7) (T := 2) (a0 := (-1)) (a1 := 9) (a2 := 10) hk)
          have S8 := hide ((unhide S7).later hB ((Below.refl w7.heap.size w7).alloc (Nat.le_refl _) (.cells #[.int .i64 (-1), .int .i64 9, .int .i64 10] 2)))
          have h7 := (unhide S7).ds.gr.size
          clear S7
          go_wp2_with fail
          generalize w7.alloc _ = Y at *
          refine (below_any B g a len cap 3 _ hB hl (unhide S8).ds.cur (unhide S8).ds.rd (by omega)).mono ?_
          rintro e w9 ⟨x9, rfl, x90, x91, k9, g9⟩
          obtain ⟨j, rfl⟩ := Int.eq_ofNat_of_zero_le x90
          obtain ⟨u, hu⟩ := unhide hla j (by omega)
          have hu2 := grown_cell g9 (by omega) hu
          have S9 := hide ((unhide S8).call hB hgl k9 g9)
          clear k9 g9 hu hla S8
          obtain ⟨z0, z1, z2, z3⟩ := ownQ_at (unhide S9).row (unhide hy')
          have zf := (unhide S9).row.frozenAt (q * 4)
          have hSF := hide ((unhide S9).set0 hB hgl (unhide hy') u)
          clear S9
          go_wp2
          go_meet
          obtain ⟨vs', SF⟩ := unhide hSF
          exact ⟨vs', hide (SF.weak (by omega))⟩
        · have hla := hide (fun k (hk : k < 3) => lit3 (w := w7) (T := 2) (a0 := (-1)) (a1 := 10000000) (a2 := 10000001) hk)
          have S8 := hide ((unhide S7).later hB ((Below.refl w7.heap.size w7).alloc (Nat.le_refl _) (.cells #[.int .i64 (-1), .int .i64 10000000, .int .i64 10000001] 2)))
          have h7 := (unhide S7).ds.gr.size
          clear S7
          go_wp2_with fail
          generalize w7.alloc _ = Y at *
          refine (below_any B g a len cap 3 _ hB hl (unhide S8).ds.cur (unhide S8).ds.rd (by omega)).mono ?_
          rintro e w9 ⟨x9, rfl, x90, x91, k9, g9⟩
          obtain ⟨j, rfl⟩ := Int.eq_ofNat_of_zero_le x90
          obtain ⟨u, hu⟩ := unhide hla j (by omega)
          have hu2 := grown_cell g9 (by omega) hu
          have S9 := hide ((unhide S8).call hB hgl k9 g9)
          clear k9 g9 hu hla S8
          obtain ⟨z0, z1, z2, z3⟩ := ownQ_at (unhide S9).row (unhide hy')
          have zf := (unhide S9).row.frozenAt (q * 4 + 1)
          have hSF := hide ((unhide S9).set1 hB hgl (unhide hy') u)
          clear S9
          go_wp2
          go_meet
          obtain ⟨vs', SF⟩ := unhide hSF
          exact ⟨vs', hide (SF.weak (by omega))⟩
        · have hla := hide (fun k (hk : k < 3) => lit3 (w := w7) (T := 2) (a0 := -1) (a1 := 0) (a2 := (nL : Int)) hk)
          have S8d := hide (((unhide S7).al hB (o := (.cells #[.int .i64 (-1), .int .i64 0, .int .i64 (nL : Int)] 2))).later hB ((Below.refl _ _).drew))
          have S7d := hide ((unhide S7).later hB ((Below.refl _ _).drew))
          obtain ⟨y0, y1, v, y3⟩ := y
          obtain ⟨z0, z1, z2, z3⟩ := ownQ_at (unhide S7).row (unhide hy')
          simp only at z0 z1 z2 z3
          have zf := (unhide S7).row.frozenAt (q * 4 + 2)
          have h7 := (unhide S7).ds.gr.size
          have zl := own_lt (unhide S7).row
          clear S7
          go_wp2_with fail
          go_region_law ((first
            | (
              go_simp
              go_at_call 34
              refine (below_any B g a len cap 3 (w7.alloc (.cells #[.int .i64 (-1), .int .i64 0, .int .i64 (nL : Int)] 2)).drew hB hl (unhide S8d).ds.cur (unhide S8d).ds.rd (by omega)).mono ?_
              rintro e w9 ⟨x9, rfl, x90, x91, kk, gg⟩
              obtain ⟨j, rfl⟩ := Int.eq_ofNat_of_zero_le x90
              obtain ⟨u, hu⟩ := unhide hla j (by omega)
              have hu2 := grown_cell gg (by omega) hu
              have S9 := hide ((unhide S8d).call hB hgl kk gg)
              obtain ⟨mm, L, hnd, hm⟩ := (unhide S9).nd q _ (unhide hy')
              obtain ⟨m0, m1, m2, m3⟩ := ownQ_at (unhide S9).row (unhide hy')
              simp only at m0 m1 m2 m3 hnd
              have mf := (unhide S9).row.frozenAt (q * 4 + 2)
              have ml := own_lt (unhide S9).row
              have hnd := hide hnd
              have h9 := (unhide S9).ds.gr.size
              clear kk gg)
            | (
              go_simp
              go_at_call 34
              refine (below_any B g a len cap 3 w7.drew hB hl (unhide S7d).ds.cur (unhide S7d).ds.rd (by omega)).mono ?_
              rintro e w9 ⟨x9, rfl, x90, x91, kk, gg⟩
              obtain ⟨j, rfl⟩ := Int.eq_ofNat_of_zero_le x90
              obtain ⟨u, hu2⟩ := lit3 (w := w9) (T := 2) (k := j) (a0 := -1) (a1 := 0) (a2 := (nL : Int)) (by omega)
              have S9 := hide ((unhide S7d).call hB hgl kk gg)
              obtain ⟨mm, L, hnd, hm⟩ := (unhide S9).nd q _ (unhide hy')
              obtain ⟨m0, m1, m2, m3⟩ := ownQ_at (unhide S9).row (unhide hy')
              simp only at m0 m1 m2 m3 hnd
              have mf := (unhide S9).row.frozenAt (q * 4 + 2)
              have ml := own_lt (unhide S9).row
              have hnd := hide hnd
              have h9 := (unhide S9).ds.gr.size
              clear kk gg)
            | (
              refine step_iV _ (by rfl) _ _ (by rfl) w.heap.size mm v L u (by rfl) (by first | exact ownV_al (unhide hnd) | exact ownV_al (ownV_al (unhide hnd))) _ (by rfl) (by first | exact heap_alloc_new _ _ | exact al2 _ _ _) (by omega) (by simp; omega) ?_
              intro G' c' w5 ho hgr hat
              first
                | (have hro := ((unhide S9).al hB).rowk (unhide hy') hgr
                   have hSF := hide (((unhide S9).al hB).setN (N := 4) hB hgl (unhide hy') (by omega) (by omega) ho hgr hat))
                | (have hro := (((unhide S9).al hB).al hB).rowk (unhide hy') hgr
                   have hSF := hide ((((unhide S9).al hB).al hB).setN (N := 4) hB hgl (unhide hy') (by omega) (by omega) ho hgr hat))
              obtain ⟨r2, rf, rl⟩ := hro
              simp only at r2
              clear ho hgr hat S9 hnd m0 m1 m2 m3 mf)))
          all_goals (
            go_wp2
            go_meet
            obtain ⟨vs', SF⟩ := unhide hSF
            exact ⟨vs', hide SF⟩)
        · have hla := hide (fun k (hk : k < 3) => lit3 (w := w7) (T := 2) (a0 := 0) (a1 := 1000) (a2 := 1001) hk)
          have S8 := hide ((unhide S7).later hB ((Below.refl w7.heap.size w7).alloc (Nat.le_refl _) (.cells #[.int .i64 0, .int .i64 1000, .int .i64 1001] 2)))
          have h7 := (unhide S7).ds.gr.size
          clear S7
          go_wp2_with fail
          generalize w7.alloc _ = Y at *
          refine (below_any B g a len cap 3 _ hB hl (unhide S8).ds.cur (unhide S8).ds.rd (by omega)).mono ?_
          rintro e w9 ⟨x9, rfl, x90, x91, k9, g9⟩
          obtain ⟨j, rfl⟩ := Int.eq_ofNat_of_zero_le x90
          obtain ⟨u, hu⟩ := unhide hla j (by omega)
          have hu2 := grown_cell g9 (by omega) hu
          have S9 := hide ((unhide S8).call hB hgl k9 g9)
          clear k9 g9 hu hla S8
          obtain ⟨z0, z1, z2, z3⟩ := ownQ_at (unhide S9).row (unhide hy')
          have zf := (unhide S9).row.frozenAt (q * 4 + 3)
          have hSF := hide ((unhide S9).set3 hB hgl (unhide hy') u)
          clear S9
          go_wp2
          go_meet
          obtain ⟨vs', SF⟩ := unhide hSF
          exact ⟨vs', hide (SF.weak (by omega))⟩
      case rest =>
      obtain ⟨vs', S6⟩ := hcut
      clear S5 hL0
      go_wp2_with fail
      refine (once_any B g a len cap 60 _ hB hl (unhide S6).ds.cur (unhide S6).ds.rd (by omega)).mono ?_
      rintro e w9 ⟨x9, rfl, k9, g9⟩
      have S7 := hide ((unhide S6).call hB hgl k9 g9)
      clear k9 g9 S6
      cases x9 with
      | false =>
        go_wp2
        go_ret
        exact JbR.mk (by omega) (unhide S7)
      | true =>
      have S8 := hide ((unhide S7).re hB)
      clear S7
      go_wp2
      go_loopw [3, 9] (fun s3 t9 wr => ∃ (i G2 c2 : Nat) (vs2 : List Tq), t9 = .int .i64 i ∧ s3 = .slice (some ⟨G2, 0, none⟩) i c2 ∧ i ≤ 201 ∧ Hid (JS 4 w B g a len cap wr G2 i c2 vs2)) (fun _ t _ => 201 - (intOf t).toNat)
      case atStart => exact ⟨0, w9.heap.size, 0, [], rfl, rfl, by omega, S8⟩
      case round =>
        clear S8
        obtain ⟨i, G2, c2, vs2, rfl, rfl, hi, hS⟩ := hrel
        go_wp2_with fail
        refine (below_any B g a len cap 2 _ hB hl (unhide hS).ds.cur (unhide hS).ds.rd (by omega)).mono ?_
        rintro e w12 ⟨x12, rfl, x120, x121, k12, g12⟩
        have S12 := hide ((unhide hS).call hB hgl k12 g12)
        have h12 := (unhide S12).ds.gr.size
        clear k12 g12 hS
        by_cases hlt : (i : Int) < 200 + x12
        · have hm7 : 0 ≤ (i : Int) % 7 ∧ (i : Int) % 7 < 7 := by omega
          go_wp2_with (at_builtin; refine wpList_qG _ rfl _ _ rfl w.heap.size G2 i c2 vs2 (0, (i : Int), .slice none 0 0, 1 + (i : Int) % 7) rfl rfl (unhide S12).row rfl (by omega) h12 ?_)
          intro g' cap' w' ho hgr
          have S13 := hide ((unhide S12).app hB hgl (ownV_nil _ _) (by omega) (fun j p hp k hk e => by cases e) ho hgr)
          clear ho hgr S12
          go_wp2
          go_roundw
          case rel => exact ⟨i + 1, g', cap', _, by go_num, rfl, by omega, S13⟩
          case measure => simp [intOf]; omega
        · go_wp2
          go_ret
          exact JbR.mk (by omega) (unhide S12)
end Go.Proofs.Ytpmmimcafkillaa

namespace Go.Proofs.Ytpmmimcafkillaa
open Go.RowKit
set_option linter.unusedVariables false
set_option linter.unusedSimpArgs false
/-- a farm that is drawn -/
def FmD (w : World) (e : Ending) (w' : World) : Prop := ∃ G n c x, e = .returned (.tuple #[.slice (some ⟨G, 0, none⟩) n c, .int .i64 x]) ∧ n ≤ 210 ∧ -1 ≤ x ∧ x ≤ 51 ∧ (∃ ts : List Tv, ts.length = n ∧ Tks w' (some ⟨G, 0, none⟩) ts) ∧ Below w.heap.size w w'
theorem FmD.mk {W w wr : World} {g G n c len cap : Nat} {a : Option Addr} {vs : List Tq} {x : Int} (h : JS 4 w W.heap.size g a len cap wr G n c vs) (hb : Below W.heap.size W w) (hg : W.heap.size ≤ g) (hn : n ≤ 210) (x0 : -1 ≤ x) (x1 : x ≤ 51) : FmD W (.returned (.tuple #[.slice (some ⟨G, 0, none⟩) n c, .int .i64 x])) wr :=
  ⟨G, n, c, x, rfl, hn, x0, x1, h.tks (by omega), below_grown hb h.ds.gr hg⟩
theorem rdb_mono {w w1 : World} {B B' : Nat} {a : Option Addr} {len : Nat} (h : RdB w B a len) (hb : Below w.heap.size w w1) (hB : B ≤ w.heap.size) : RdB w1 B a len := by
  intro j hj
  obtain ⟨b, o, z, e, hb2, hc, h0, h1⟩ := h j hj
  exact ⟨b, o, z, e, hb2, (hb.cell (p := ⟨b, o + j, none⟩) (by show b < _; omega)).trans hc, h0, h1⟩
end Go.Proofs.Ytpmmimcafkillaa
