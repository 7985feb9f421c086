/-
  Contract of the model's draw of a picture, over a cursor on bytes that came in: new memory; what was there but for the cursor stays.
-/
import Derived.Test.YtdppnjafkbopiaaDrT
import Derived.Test.YtdppnjafkbopiaaMo5
import Derived.Deep.AppendLies
namespace Go.Proofs.Ytdppnjafkbopiaa
open Go.RowKit
set_option linter.unusedVariables false
set_option linter.unusedSimpArgs false
/-- a list of the call's own, or none yet -/
abbrev OwnV (w : World) (B : Nat) (v : Value) (n : Nat) (L : List Int) : Prop := w.ownsRow B 2 1 v n (L.map iv)
theorem ownV_len {w : World} {B n : Nat} {v : Value} {L : List Int} (h : OwnV w B v n L) : L.length = n := by
  have hl : (L.map iv).length = n * 1 := h.1
  simpa using hl
theorem ownV_nil (w : World) (B : Nat) : OwnV w B (.slice none 0 0) 0 [] := ⟨rfl, Or.inl ⟨rfl, rfl⟩⟩
theorem ownV_blk {w : World} {B n k : Nat} {v : Value} {L : List Int} (h : OwnV w B v n L) (hk : v.ownBlock = some k) : B ≤ k ∧ ∃ cur, w.heap[k]? = some (.cells cur 2 (0, 0)) := by
  rcases h.2 with ⟨h1, _⟩ | ⟨g, cap, cur, h1, h2, h3, _⟩
  · subst h1; cases hk
  · subst h1; injection hk with hk; subst hk; exact ⟨h2, cur, h3⟩
theorem ownV_keep {w w1 : World} {B n : Nat} {v : Value} {L : List Int} (h : OwnV w B v n L) (hb : ∀ k, v.ownBlock = some k → w1.heap[k]? = w.heap[k]?) : OwnV w1 B v n L := by
  obtain ⟨h0, h2⟩ := h
  refine ⟨h0, ?_⟩
  rcases h2 with h1 | ⟨g, cap, cur, h1, h2, h3, r⟩
  · exact Or.inl h1
  · subst h1
    exact Or.inr ⟨g, cap, cur, rfl, h2, (hb g rfl).trans h3, r⟩
theorem ownV_kept {w w1 : World} {B n g : Nat} {v : Value} {L : List Int} (h : OwnV w B v n L) (hg : w.grownBy w1 (some g)) (hlt : g < B) : OwnV w1 B v n L :=
  ownV_keep h (fun k hk => hg.block k (h.lt k hk).2 (by intro e; injection e with e; have := (h.lt k hk).1; omega))
theorem ownV_set {w : World} {B n b i : Nat} {v u : Value} {L : List Int} (h : OwnV w B v n L) (hne : ∀ k, v.ownBlock = some k → k ≠ b) : OwnV (w.setCell ⟨b, i, none⟩ u) B v n L :=
  ownV_keep h (fun k hk => by simp [World.setCell, Array.getElem?_modify, Ne.symm (hne k hk)])
theorem P3.apart {w : World} {b B n : Nat} {x y : Int} {u v : Value} {L : List Int} (h : P3 w b 26 x y u) (ho : OwnV w B v n L) : ∀ k, v.ownBlock = some k → k ≠ b := by
  intro k hk e
  subst e
  obtain ⟨_, cur, h2⟩ := ownV_blk ho hk
  unfold P3 at h
  rw [h2] at h
  cases h
theorem P3.grown {w w1 : World} {b B n : Nat} {x y : Int} {u v : Value} {L : List Int} (h : P3 w b 26 x y u) (ho : OwnV w B v n L) (hg : w.grownBy w1 v.ownBlock) : P3 w1 b 26 x y u :=
  (hg.block b h.lt (fun e => h.apart ho b e.symm rfl)).trans h
theorem P3.kept {w w1 : World} {b g : Nat} {x y : Int} {u : Value} (h : P3 w b 26 x y u) (hg : w.grownBy w1 (some g)) (hne : b ≠ g) : P3 w1 b 26 x y u :=
  (hg.block b h.lt (by intro e; injection e with e; exact hne e)).trans h
/-- one more behind a list that may be none yet -/
theorem wpList_iV {ops : Array Oper} {rest : List Oper} {o : Oper} {a : Act} {Q : Exit → Act → World → Prop} (w : World) (hgd : o.guard = none) (s x : Operand) (ho : o.op = .call { callee := .builtin .append, args := #[s, x], argTypes := #[24, 24] })
    (B n : Nat) (u : Value) (L : List Int) (v : Int) (hs : a.eval s = u) (hown : OwnV w B u n L) (hx : a.eval x = .slice (some ⟨w.heap.size, 0, none⟩) 1 1)
    (hl : n ≤ 1000000) (hB : B ≤ w.heap.size)
    (h : ∀ g' cap' w', OwnV w' B (.slice (some ⟨g', 0, none⟩) (n + 1) cap') (n + 1) (L ++ [v]) → w.grownBy w' u.ownBlock → wpList Try.prog ops Q rest (a.put o.dst (.slice (some ⟨g', 0, none⟩) (n + 1) cap')) w') : wpList Try.prog ops Q (o :: rest) a (w.alloc (.cells #[.int .i64 v] 2)) := by
  obtain ⟨i0, hi, hz0, hz1, hz2⟩ := info_parts infoI
  have hb : Below w.heap.size w (w.alloc (.cells #[.int .i64 v] 2)) := (Below.refl _ _).alloc (Nat.le_refl _) _
  have hblk : (w.alloc (.cells #[.int .i64 v] 2)).heap[w.heap.size]? = some (.cells #[.int .i64 v] 2 (0, 0)) := heap_alloc_new w _
  have hnews := iv_news hblk
  have hsz := hb.size
  generalize w.alloc (.cells #[.int .i64 v] 2) = W at *
  have hown2 := ownsRow_below hown hb
  refine wpList_append_lies W hgd s x 24 ho B 2 i0 (.int .i64 0) 1 8 Try.underlying24 hi hz0 hz1 hz2 rfl (by decide) _ n (L.map iv) hs hown2 ⟨w.heap.size, 0, none⟩ 1 1 [iv v] hx rfl hnews (by intro u hu; simp at hu; subst hu; rfl) (by decide) (by unfold maxLen; omega) (by omega) (by omega) W.heap.size rfl ?_
  intro g' cap' w' h1 h2 h3 h4
  exact h g' cap' w' (by show World.ownsRow _ _ _ _ _ _ _; rw [List.map_append]; exact h1) (grown_trans (grown_below hb) h2)
theorem DS.grown {w wr w1 : World} {B g len cap n : Nat} {a : Option Addr} {v : Value} {L : List Int} (h : DS w B g a len cap wr) (hB : B ≤ w.heap.size) (hg : g < w.heap.size) {C : Nat} (hC : w.heap.size ≤ C) (ho : OwnV wr C v n L) (hgr : wr.grownBy w1 v.ownBlock) : DS w B g a len cap w1 :=
  h.app hB hg ((Below.refl _ _).grown hgr h.gr.size (fun k hk => by have := (ho.lt k hk).1; omega))
theorem DS.set {w wr : World} {B g len cap kb i : Nat} {a : Option Addr} {v : Value} (h : DS w B g a len cap wr) (hB : B ≤ w.heap.size) (hg : g < w.heap.size) (hk : w.heap.size ≤ kb) : DS w B g a len cap (wr.setCell ⟨kb, i, none⟩ v) :=
  h.app hB hg ((Below.refl _ _).setCell (p := ⟨kb, i, none⟩) hk _)
/-- the draw's state: the cursor, the answer's box, the picture's box, its numbers -/
structure Pd (w : World) (B g : Nat) (a : Option Addr) (len cap : Nat) (x y : Int) (v : Value) (n : Nat) (L : List Int) (wr : World) : Prop where
  ds : DS w B g a len cap wr
  r : P3 wr w.heap.size 26 0 0 (.slice none 0 0)
  p : P3 wr (w.heap.size + 1) 26 x y v
  ow : OwnV wr w.heap.size v n L
section
variable {w wr w1 : World} {B g len cap n : Nat} {a : Option Addr} {x y : Int} {v : Value} {L : List Int}
theorem Pd.call (h : Pd w B g a len cap x y v n L wr) (hB : B ≤ g) (hg : g < w.heap.size) (hc : CurAt w1 g a len cap) (hgr : wr.grownBy w1 (some g)) : Pd w B g a len cap x y v n L w1 :=
  ⟨h.ds.step hB hc hgr, h.r.kept hgr (by omega), h.p.kept hgr (by omega), ownV_kept h.ow hgr hg⟩
theorem Pd.app {G c : Nat} {z : Int} (h : Pd w B g a len cap x y v n L wr) (hB : B ≤ w.heap.size) (hg : g < w.heap.size) (ho : OwnV w1 w.heap.size (.slice (some ⟨G, 0, none⟩) (n + 1) c) (n + 1) (L ++ [z])) (hgr : wr.grownBy w1 v.ownBlock) :
    Pd w B g a len cap x y (.slice (some ⟨G, 0, none⟩) (n + 1) c) (n + 1) (L ++ [z]) (w1.setCell ⟨w.heap.size + 1, 2, none⟩ (.slice (some ⟨G, 0, none⟩) (n + 1) c)) := by
  have p1 := h.p.grown h.ow hgr
  exact ⟨(h.ds.grown hB hg (Nat.le_refl _) h.ow hgr).set hB hg (by omega), (h.r.grown h.ow hgr).ne (by omega), p1.set2 _, ownV_set ho (p1.apart ho)⟩
theorem Pd.pc (h : Pd w B g a len cap x y v n L wr) (hB : B ≤ w.heap.size) (hg : g < w.heap.size) :
    DS w B g a len cap (((wr.setCell ⟨w.heap.size, 0, none⟩ (.int .i64 x)).setCell ⟨w.heap.size, 1, none⟩ (.int .i64 y)).setCell ⟨w.heap.size, 2, none⟩ v) ∧ OwnV (((wr.setCell ⟨w.heap.size, 0, none⟩ (.int .i64 x)).setCell ⟨w.heap.size, 1, none⟩ (.int .i64 y)).setCell ⟨w.heap.size, 2, none⟩ v) w.heap.size v n L := by
  have hn := h.r.apart h.ow
  exact ⟨((h.ds.set hB hg (Nat.le_refl _)).set hB hg (Nat.le_refl _)).set hB hg (Nat.le_refl _), ownV_set (ownV_set (ownV_set h.ow hn) hn) hn⟩
end
/-- a picture that is drawn -/
def PcR (w : World) (B g : Nat) (a : Option Addr) (len cap : Nat) (W H : Int) (M : Nat) (e : Ending) (w' : World) : Prop := ∃ (G c : Nat) (L : List Int), e = .returned (.agg #[.int .i64 W, .int .i64 H, .slice (some ⟨G, 0, none⟩) M c]) ∧ L.length = M ∧ (∀ z ∈ L, Px8 z) ∧ DS w B g a len cap w' ∧ OwnV w' w.heap.size (.slice (some ⟨G, 0, none⟩) M c) M L
theorem px8_snoc {L : List Int} {b : Int} (h : ∀ z ∈ L, Px8 z) (h0 : 0 ≤ b) (h1 : b ≤ 255) : ∀ z ∈ L ++ [b], Px8 z := by
  intro z hz
  rcases List.mem_append.1 hz with hz | hz
  · exact h z hz
  · simp at hz; subst hz; unfold Px8; omega
theorem ownV_shape {w : World} {B n : Nat} {v : Value} {L : List Int} (h : OwnV w B v n L) (hn : 0 < n) : ∃ G c, v = .slice (some ⟨G, 0, none⟩) n c := by
  rcases h.2 with ⟨_, h1⟩ | ⟨g, cap, cur, h1, _⟩
  · omega
  · exact ⟨g, cap, h1⟩
set_option maxRecDepth 100000 in
set_option maxHeartbeats 3200000 in
theorem dpc_any (B g : Nat) (a : Option Addr) (len cap : Nat) (W H : Int) (M : Nat) (w : World) (hB : B ≤ g) (hBw : B ≤ w.heap.size) (hl : len ≤ 9223372036854775807) (hc : CurAt w g a len cap) (hr : RdB w B a len) (hM : W * H = M) (hM0 : 0 < M) (hM1 : M ≤ 1000) :
    Calls Try.prog 19 #[.pointer (some ⟨g, 0, none⟩), .int .i64 W, .int .i64 H] w (PcR w B g a len cap W H M) := by
  have hg0 := hc.lt
  have hwm : IntKind.i64.wrap (W * H) = M := by rw [hM, IntKind.wrap_i64]; omega
  have a1 : Below w.heap.size w (w.alloc (.cells #[.int .i64 0, .int .i64 0, .slice none 0 0] 26)) := (Below.refl _ _).alloc (Nat.le_refl _) _
  have r1 := P3.new w 26 0 0 (.slice none 0 0)
  have z1 := Deep.nblk_alloc w (.cells #[.int .i64 0, .int .i64 0, .slice none 0 0] 26)
  have d1 : DS w B g a len cap (w.alloc (.cells #[.int .i64 0, .int .i64 0, .slice none 0 0] 26)) := (⟨hc, hr, grown_refl _ _⟩ : DS w B g a len cap w).later hB a1
  clear hc hr hM
  go_enter Try.func19, Try.ntmps19
  go_wp2_with fail
  generalize w.alloc (.cells #[.int .i64 0, .int .i64 0, .slice none 0 0] 26) = w1 at *
  have a2 : Below w1.heap.size w1 (w1.alloc (.cells #[.int .i64 W, .int .i64 H, .slice none 0 0] 26)) := (Below.refl _ _).alloc (Nat.le_refl _) _
  have r2 := P3.new w1 26 W H (.slice none 0 0)
  rw [z1] at r2
  have D0 : Hid (Pd w B g a len cap W H (.slice none 0 0) 0 [] (w1.alloc (.cells #[.int .i64 W, .int .i64 H, .slice none 0 0] 26))) := hide ⟨d1.later hB a2, r1.later a2, r2, ownV_nil _ _⟩
  generalize w1.alloc (.cells #[.int .i64 W, .int .i64 H, .slice none 0 0] 26) = w2 at *
  clear a1 a2 r1 r2 d1 z1 w1
  refine (below_any B g a len cap 256 _ hB hl (unhide D0).ds.cur (unhide D0).ds.rd (by omega)).mono ?_
  rintro e w3 ⟨b0, rfl, b00, b01, k3, g3⟩
  have D1 := hide ((unhide D0).call hB hg0 k3 g3)
  clear D0 k3 g3
  go_wp2
  go_loopw [8, 9] (fun s t wr => ∃ (i : Nat) (b : Int) (v : Value) (L : List Int), i ≤ M ∧ t = .int .i64 i ∧ s = .int .i64 b ∧ 0 ≤ b ∧ b ≤ 255 ∧ Hid (∀ z ∈ L, Px8 z) ∧ Hid (Pd w B g a len cap W H v i L wr)) (fun _ t _ => M - (intOf t).toNat)
  case atStart => exact ⟨0, b0, _, [], by omega, rfl, rfl, b00, by omega, hide (by simp), D1⟩
  case round =>
  clear D1 b00 b01
  obtain ⟨i, b, v, L, hi, rfl, rfl, hb0, hb1, hP, D⟩ := hrel
  by_cases hlt : i < M
  · go_wp2_with fail
    refine (below_any B g a len cap 6 _ hB hl (unhide D).ds.cur (unhide D).ds.rd (by omega)).mono ?_
    rintro e w4 ⟨t, rfl, t0, t1, k4, g4⟩
    have D4 := hide ((unhide D).call hB hg0 k4 g4)
    clear D k4 g4
    by_cases ht0 : t = 0
    · subst ht0
      go_wp2_with fail
      refine (below_any B g a len cap 256 _ hB hl (unhide D4).ds.cur (unhide D4).ds.rd (by omega)).mono ?_
      rintro e wx ⟨bn, rfl, bn0, bn1, k4, g4⟩
      have DD := hide ((unhide D4).call hB hg0 k4 g4)
      clear D4 k4 g4
      obtain ⟨c0, c1, c2⟩ := (unhide DD).p.cells
      have fz := (unhide DD).p.fz 2
      have hws : w.heap.size ≤ wx.heap.size := (unhide DD).ds.gr.size
      go_wp2_with (at_builtin; refine wpList_iV wx rfl _ _ rfl w.heap.size i v L (bn) rfl (unhide DD).ow rfl (by omega) hws ?_)
      intro G' c' w7 ho hgr
      have D7 := hide ((unhide DD).app hBw hg0 ho hgr)
      have p7 := (unhide DD).p.grown (unhide DD).ow hgr
      obtain ⟨e0, e1, e2⟩ := p7.cells
      have f2 := p7.fz 2
      have hP7 := hide (px8_snoc (b := bn) (unhide hP) (by omega) (by omega))
      clear ho hgr DD p7 c0 c1 c2 fz hws hP
      go_wp2
      go_roundw
      case rel => exact ⟨i + 1, bn, _, _, by omega, by go_num, rfl, by omega, by omega, hP7, D7⟩
      case measure => simp [intOf]; omega
    have ht0' : (t == 0) = false := by simpa using ht0
    by_cases ht1 : t = 1
    · subst ht1
      obtain ⟨bm, hbm⟩ : ∃ bm, min 255 (b + 9) = bm := ⟨_, rfl⟩
      have hbm0 : 0 ≤ bm ∧ bm ≤ 255 := by omega
      obtain ⟨hbm1, hbm2⟩ := hbm0
      have hbm' := hide hbm
      clear hbm
      have DD := D4
      clear D4
      rename World => wx
      go_wp2_with fail
      refine (min_any 255 (b + 9) bm _ (unhide hbm')).mono ?_
      rintro e wy ⟨rfl, hwy⟩
      have hwy' := hwy.symm
      subst hwy'
      clear hwy
      obtain ⟨c0, c1, c2⟩ := (unhide DD).p.cells
      have fz := (unhide DD).p.fz 2
      have hws : w.heap.size ≤ wx.heap.size := (unhide DD).ds.gr.size
      go_wp2_with (at_builtin; refine wpList_iV wx rfl _ _ rfl w.heap.size i v L (bm) rfl (unhide DD).ow rfl (by omega) hws ?_)
      intro G' c' w7 ho hgr
      have D7 := hide ((unhide DD).app hBw hg0 ho hgr)
      have p7 := (unhide DD).p.grown (unhide DD).ow hgr
      obtain ⟨e0, e1, e2⟩ := p7.cells
      have f2 := p7.fz 2
      have hP7 := hide (px8_snoc (b := bm) (unhide hP) (by omega) (by omega))
      clear ho hgr DD p7 c0 c1 c2 fz hws hP
      go_wp2
      go_roundw
      case rel => exact ⟨i + 1, bm, _, _, by omega, by go_num, rfl, by omega, by omega, hP7, D7⟩
      case measure => simp [intOf]; omega
    have ht1' : (t == 1) = false := by simpa using ht1
    have DD := D4
    clear D4
    rename World => wx
    obtain ⟨c0, c1, c2⟩ := (unhide DD).p.cells
    have fz := (unhide DD).p.fz 2
    have hws : w.heap.size ≤ wx.heap.size := (unhide DD).ds.gr.size
    go_wp2_with (at_builtin; refine wpList_iV wx rfl _ _ rfl w.heap.size i v L (b) rfl (unhide DD).ow rfl (by omega) hws ?_)
    intro G' c' w7 ho hgr
    have D7 := hide ((unhide DD).app hBw hg0 ho hgr)
    have p7 := (unhide DD).p.grown (unhide DD).ow hgr
    obtain ⟨e0, e1, e2⟩ := p7.cells
    have f2 := p7.fz 2
    have hP7 := hide (px8_snoc (b := b) (unhide hP) (by omega) (by omega))
    clear ho hgr DD p7 c0 c1 c2 fz hws hP
    go_wp2
    go_roundw
    case rel => exact ⟨i + 1, b, _, _, by omega, by go_num, rfl, by omega, by omega, hP7, D7⟩
    case measure => simp [intOf]; omega
  have hiM : i = M := by omega
  subst hiM
  obtain ⟨G, c, rfl⟩ := ownV_shape (unhide D).ow hM0
  obtain ⟨c0, c1, c2⟩ := (unhide D).p.cells
  obtain ⟨d0, d1, d2⟩ := (unhide D).r.cells
  have q0 := (unhide D).r.fz 0
  have q1 := (unhide D).r.fz 1
  have q2 := (unhide D).r.fz 2
  have hF := hide ((unhide D).pc hBw hg0)
  have hLn := ownV_len (unhide D).ow
  have tM : ((i : Int) < i) = False := by simp
  go_wp2
  exact bodyPost_ret (v := .agg #[.int .i64 W, .int .i64 H, .slice (some ⟨G, 0, none⟩) i c]) (by simp [results, Try.results19, go_sem, d0, d1, d2]) rfl ⟨G, c, L, rfl, hLn, unhide hP, (unhide hF).1, (unhide hF).2⟩

end Go.Proofs.Ytdppnjafkbopiaa
