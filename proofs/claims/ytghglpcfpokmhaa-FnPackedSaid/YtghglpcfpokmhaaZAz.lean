/-
  Contracts of the model's draws of a number, of a secret and of a body: some answer; the cursor alone is written.
  The draw of names and bodies; nothing that was there is written but the cursor.
  Zero values appended to an owned list (append of a make), and a list cut at its end.
-/
import Derived.Test.YtghglpcfpokmhaaZDrC
import Derived.Test.YtghglpcfpokmhaaZDg
import Derived.Lib.MinMax
import Derived.Test.YtghglpcfpokmhaaZShelf
import Derived.Lib.AppendZerosOnto
namespace Go.Proofs.Ytghglpcfpokmhaa
open Go.RowKit
set_option linter.unusedVariables false
set_option linter.unusedSimpArgs false

/-- the state of the draw of a list: the cursor, the list -/
structure BS (w : World) (B g : Nat) (a : Option Addr) (len cap : Nat) (wr : World) (gb n c : Nat) (L : List Int) : Prop where
  ds : DS w B g a len cap wr
  ow : OwnB wr w.heap.size gb n c L
theorem BS.step {w wr w1 : World} {B g : Nat} {a : Option Addr} {len cap gb n c : Nat} {L : List Int} (h : BS w B g a len cap wr gb n c L) (hB : B ≤ g) (hg : g < w.heap.size) (hc : CurAt w1 g a len cap) (hgr : wr.grownBy w1 (some g)) : BS w B g a len cap w1 gb n c L :=
  ⟨h.ds.step hB hc hgr, own_kept h.ow hgr (by have := own_ge h.ow; omega)⟩
theorem BS.later {w wr w1 : World} {B g : Nat} {a : Option Addr} {len cap gb n c : Nat} {L : List Int} (h : BS w B g a len cap wr gb n c L) (hB : B ≤ g) (hb : Below wr.heap.size wr w1) : BS w B g a len cap w1 gb n c L :=
  ⟨h.ds.later hB hb, ownsRow_below h.ow hb⟩
theorem DS.app {w wr w1 : World} {B g : Nat} {a : Option Addr} {len cap : Nat} (h : DS w B g a len cap wr) (hB : B ≤ w.heap.size) (hg : g < w.heap.size) (hb : Below w.heap.size wr w1) : DS w B g a len cap w1 := by
  refine ⟨h.cur.other (hb.block g hg), ?_, ?_⟩
  · intro j hj
    obtain ⟨b, o, z, e, hb2, hc, h0, h1⟩ := h.rd j hj
    exact ⟨b, o, z, e, hb2, (hb.cell (p := ⟨b, o + j, none⟩) (by show b < _; omega)).trans hc, h0, h1⟩
  · exact ⟨hb.os.trans h.gr.os, hb.tape.trans h.gr.tape, hb.output.trans h.gr.output, Nat.le_trans h.gr.size hb.size, fun j hj hn => (hb.block j hj).trans (h.gr.block j hj hn)⟩
theorem BS.app {w wr w1 : World} {B g : Nat} {a : Option Addr} {len cap gb n c gb' n' c' : Nat} {L L' : List Int} (h : BS w B g a len cap wr gb n c L) (hB : B ≤ w.heap.size) (hg : g < w.heap.size) (hb : Below w.heap.size wr w1) (ho : OwnB w1 w.heap.size gb' n' c' L') : BS w B g a len cap w1 gb' n' c' L' :=
  ⟨h.ds.app hB hg hb, ho⟩
theorem BS.low {w0 w wr : World} {B g : Nat} {a : Option Addr} {len cap gb n c : Nat} {L : List Int} (h : BS w B g a len cap wr gb n c L) (hb : Below w0.heap.size w0 w) (hg : w0.heap.size ≤ g) : Below w0.heap.size w0 wr := below_grown hb h.ds.gr hg
theorem BS.size {w wr : World} {B g : Nat} {a : Option Addr} {len cap gb n c : Nat} {L : List Int} (h : BS w B g a len cap wr gb n c L) : w.heap.size ≤ wr.heap.size := h.ds.gr.size
theorem lit_at2 {w : World} {T : TypeId} {a0 a1 : Int} (k : Nat) (hk : k < 2) : ∃ v : Int, (w.alloc (.cells #[.int .i64 a0, .int .i64 a1] T)).cell? ⟨w.heap.size, k, none⟩ = some (.int .i64 v) := by
  have hc : k = 0 ∨ k = 1 := by omega
  rcases hc with rfl | rfl
  · exact ⟨a0, by simp [go_sem]⟩
  · exact ⟨a1, by simp [go_sem]⟩
theorem lit_at3 {w : World} {T : TypeId} {a0 a1 a2 : Int} (k : Nat) (hk : k < 3) : ∃ v : Int, (w.alloc (.cells #[.int .i64 a0, .int .i64 a1, .int .i64 a2] T)).cell? ⟨w.heap.size, k, none⟩ = some (.int .i64 v) := by
  have hc : k = 0 ∨ k = 1 ∨ k = 2 := by omega
  rcases hc with rfl | rfl | rfl
  · exact ⟨a0, by simp [go_sem]⟩
  · exact ⟨a1, by simp [go_sem]⟩
  · exact ⟨a2, by simp [go_sem]⟩
theorem lit_at5 {w : World} {T : TypeId} {a0 a1 a2 a3 a4 : Int} (k : Nat) (hk : k < 5) : ∃ v : Int, (w.alloc (.cells #[.int .i64 a0, .int .i64 a1, .int .i64 a2, .int .i64 a3, .int .i64 a4] T)).cell? ⟨w.heap.size, k, none⟩ = some (.int .i64 v) := by
  have hc : k = 0 ∨ k = 1 ∨ k = 2 ∨ k = 3 ∨ k = 4 := by omega
  rcases hc with rfl | rfl | rfl | rfl | rfl
  · exact ⟨a0, by simp [go_sem]⟩
  · exact ⟨a1, by simp [go_sem]⟩
  · exact ⟨a2, by simp [go_sem]⟩
  · exact ⟨a3, by simp [go_sem]⟩
  · exact ⟨a4, by simp [go_sem]⟩
theorem lit_at10 {w : World} {T : TypeId} {a0 a1 a2 a3 a4 a5 a6 a7 a8 a9 : Int} (k : Nat) (hk : k < 10) : ∃ v : Int, (w.alloc (.cells #[.int .i64 a0, .int .i64 a1, .int .i64 a2, .int .i64 a3, .int .i64 a4, .int .i64 a5, .int .i64 a6, .int .i64 a7, .int .i64 a8, .int .i64 a9] T)).cell? ⟨w.heap.size, k, none⟩ = some (.int .i64 v) := by
  have hc : k = 0 ∨ k = 1 ∨ k = 2 ∨ k = 3 ∨ k = 4 ∨ k = 5 ∨ k = 6 ∨ k = 7 ∨ k = 8 ∨ k = 9 := by omega
  rcases hc with rfl | rfl | rfl | rfl | rfl | rfl | rfl | rfl | rfl | rfl
  · exact ⟨a0, by simp [go_sem]⟩
  · exact ⟨a1, by simp [go_sem]⟩
  · exact ⟨a2, by simp [go_sem]⟩
  · exact ⟨a3, by simp [go_sem]⟩
  · exact ⟨a4, by simp [go_sem]⟩
  · exact ⟨a5, by simp [go_sem]⟩
  · exact ⟨a6, by simp [go_sem]⟩
  · exact ⟨a7, by simp [go_sem]⟩
  · exact ⟨a8, by simp [go_sem]⟩
  · exact ⟨a9, by simp [go_sem]⟩
/-- some number is drawn -/
def AnN (w : World) (B g : Nat) (a : Option Addr) (len cap : Nat) (e : Ending) (w' : World) : Prop := ∃ x : Int, e = .returned (.int .i64 x) ∧ CurAt w' g a len cap ∧ w.grownBy w' (some g)
/-- some body is drawn -/
def AnY (w : World) (B g : Nat) (a : Option Addr) (len cap : Nat) (e : Ending) (w' : World) : Prop := ∃ G c L, e = .returned (.slice (some ⟨G, 0, none⟩) L.length c) ∧ OwnB w' w.heap.size G L.length c L ∧ Byt L ∧ L.length ≤ 40001 ∧ DS w B g a len cap w'
theorem AnY.mk {w w' : World} {B g : Nat} {a : Option Addr} {len cap G n c : Nat} {L : List Int} (h : BS w B g a len cap w' G n c L) (hy : Byt L) (hn : n ≤ 40001) : AnY w B g a len cap (.returned (.slice (some ⟨G, 0, none⟩) n c)) w' := by
  have hl := ownB_len h.ow
  subst hl
  exact ⟨G, c, L, rfl, h.ow, hy, hn, h.ds⟩
theorem byt_snoc {L : List Int} {x : Int} (h : Byt L) (h0 : 0 ≤ x) (h1 : x ≤ 255) : Byt (L ++ [x]) := by
  intro z hz
  rcases List.mem_append.1 hz with hz | hz
  · exact h z hz
  · simp at hz; subst hz; exact ⟨h0, h1⟩
theorem byt_rep (n : Nat) : Byt (List.replicate n 0) := by
  intro z hz
  have := List.eq_of_mem_replicate hz
  subst this; omega
set_option maxRecDepth 100000 in
set_option maxHeartbeats 1600000 in
theorem dbody_any (B g : Nat) (a : Option Addr) (len cap : Nat) (w : World) (hB : B ≤ g) (hBw : B ≤ w.heap.size) (hl : len ≤ 9223372036854775807) (hc : CurAt w g a len cap) (hr : RdB w B a len) :
    Calls Try.prog 28 #[.pointer (some ⟨g, 0, none⟩)] w (AnY w B g a len cap) := by
  obtain ⟨i0, hi, hz0, hz1, hz2⟩ := info_parts infoB
  have hD : DS w B g a len cap w := ⟨hc, hr, grown_refl _ _⟩
  have hgl := hc.lt
  have hD1 := hide (show BS w B g a len cap (w.alloc (.cells #[] 5)) w.heap.size 0 0 [] from ⟨hD.later hB ((Below.refl w.heap.size w).alloc (Nat.le_refl _) (.cells #[] 5)), ownB_lit0 w (Nat.le_refl _)⟩)
  clear hc hr hD
  go_enter Try.func28, Try.ntmps28
  go_wp2_with fail
  generalize w.alloc (.cells #[] 5) = X at *
  refine (below_any B g a len cap 10 _ hB hl (unhide hD1).ds.cur (unhide hD1).ds.rd (by omega)).mono ?_
  rintro e w1 ⟨x, rfl, x0, x1, k1, g1⟩
  obtain ⟨N, rfl⟩ := Int.eq_ofNat_of_zero_le x0
  have hD2 := hide ((unhide hD1).step hB hgl k1 g1)
  clear k1 g1 hD1
  go_wp2
  go_loopw [3, 4] (fun u t wr => ∃ (k n gb c : Nat) (L : List Int), k + n ≤ 10 ∧ t = .int .i64 k ∧ u = .slice (some ⟨gb, 0, none⟩) n c ∧ Hid (Byt L) ∧ Hid (BS w B g a len cap wr gb n c L)) (fun _ t _ => (intOf t).toNat)
  case atStart => exact ⟨N, 0, w.heap.size, 0, [], by omega, rfl, rfl, hide (fun z hz => by simp at hz), hD2⟩
  case round =>
    clear hD2
    obtain ⟨k, n, gb, c, L, hkn, rfl, rfl, hyt, St⟩ := hrel
    by_cases hlt : 0 < k
    · have gg : decide ((0 : Int) < k) = true := by simp; omega
      have ggn : decide (0 < k) = true := by simp; omega
      go_wp2_with fail
      refine (byte_any B g a len cap _ hB hl (unhide St).ds.cur (unhide St).ds.rd).mono ?_
      rintro e w3 ⟨x, rfl, x0, x1, k1, g1⟩
      have S3 := hide ((unhide St).step hB hgl k1 g1)
      have hxw : IntKind.u8.wrap x = x := by rw [IntKind.wrap_u8]; omega
      have hxm : x % 256 = x := by omega
      clear k1 g1 St
      go_wp2_with (with_reducible refine wpList_bA w3 rfl _ _ rfl w.heap.size gb n c L x rfl (unhide S3).ow rfl (by omega) (unhide S3).size ?_)
      intro g' c' w' o' b' q1
      have S4 := hide ((unhide S3).app hBw hgl b' o')
      have hy2 := hide (byt_snoc (unhide hyt) x0 x1)
      clear o' b' S3 hyt
      go_wp2
      go_roundw
      case rel => exact ⟨k - 1, n + 1, g', c', L ++ [x], by omega, by go_num, by go_num, hy2, S4⟩
      case measure => simp [intOf]; omega
    · have gg : decide ((0 : Int) < k) = false := by simp; omega
      have ggn : decide (0 < k) = false := by simp; omega
      go_wp2_with fail
      refine (once_any B g a len cap 90 _ hB hl (unhide St).ds.cur (unhide St).ds.rd (by omega)).mono ?_
      rintro e w3 ⟨v, rfl, k1, g1⟩
      have S3 := hide ((unhide St).step hB hgl k1 g1)
      clear k1 g1 St
      cases v with
      | false =>
        have hfin := hide (AnY.mk (unhide S3) (unhide hyt) (by omega))
        clear S3
        go_wp2
        go_ret
        exact unhide hfin
      | true =>
        go_wp2_with fail
        refine (below_any B g a len cap 2 _ hB hl (unhide S3).ds.cur (unhide S3).ds.rd (by omega)).mono ?_
        rintro e w4 ⟨x, rfl, x0, x1, k1, g1⟩
        have D4 := hide ((unhide S3).ds.step hB k1 g1)
        obtain ⟨M, rfl⟩ := Int.eq_ofNat_of_zero_le x0
        have hMM : (40000 : Int) + M = ((40000 + M : Nat) : Int) := by omega
        have hMl : 40000 + M ≤ 40001 := by omega
        obtain ⟨Z, hZ⟩ : ∃ Z, 40000 + M = Z := ⟨_, rfl⟩
        rw [hZ] at hMM hMl
        clear k1 g1 S3 hZ
        have hs4 := (unhide D4).gr.size
        go_wp2_with (with_reducible refine wpList_make_full _ rfl _ _ 22 rfl w.heap.size 5 i0 (.int .u8 0) 1 Try.underlying22 hi hz0 hz1 .i64 .i64 _ _ Z rfl rfl rfl rfl ?b2 ?b3 hs4 ?_)
        case b2 => rw [hz2]; omega
        case b3 => unfold maxLen; omega
        intro w5 hown hg5
        have hb5 : Below w4.heap.size w4 w5 := (Below.refl _ _).grown hg5 (Nat.le_refl _) (fun k hk => by cases hk)
        have S5 := hide (show BS w B g a len cap w5 w4.heap.size Z Z (List.replicate Z 0) from ⟨(unhide D4).later hB hb5, by
          show World.ownsRow _ _ _ _ _ _ _
          rw [← made_B]; exact hown⟩)
        have hfin := hide (AnY.mk (unhide S5) (byt_rep Z) hMl)
        clear S5 D4 hown hg5 hb5
        go_wp2
        go_ret
        exact unhide hfin

end Go.Proofs.Ytghglpcfpokmhaa

namespace Go.Proofs.Ytghglpcfpokmhaa
open Go.RowKit
open Go.Proofs.Ytghglpcfpokmhaa.Bb (Tks)
set_option linter.unusedVariables false
set_option linter.unusedSimpArgs false

theorem row_type {w : World} {B g n cap m : Nat} {e : TypeId} {xs : List Value} (h : w.ownsRow B e m (.slice (some ⟨g, 0, none⟩) n cap) n xs) : ∃ cur, w.heap[g]? = some (.cells cur e (0, 0)) := by
  rcases h.2 with ⟨hv, _⟩ | ⟨g', cap', cur, hv, hB, hh, _⟩
  · cases hv
  · injection hv with e1
    injection e1 with e1
    injection e1 with e1
    subst e1
    exact ⟨cur, hh⟩
theorem ne_type {w : World} {B B' g g' n n' cap cap' m m' : Nat} {e e' : TypeId} {xs xs' : List Value} (h : w.ownsRow B e m (.slice (some ⟨g, 0, none⟩) n cap) n xs) (h' : w.ownsRow B' e' m' (.slice (some ⟨g', 0, none⟩) n' cap') n' xs') (hne : e ≠ e') : g ≠ g' := by
  intro eg
  subst eg
  obtain ⟨c, h1⟩ := row_type h
  obtain ⟨c', h2⟩ := row_type h'
  rw [h1] at h2
  injection h2 with h2
  injection h2 with _ h2
  exact hne h2
/-- a row of bodies -/
def Rw (wr : World) (lo : Nat) (vs : List Value) (ts : List (List Int)) : Prop := ∀ (j : Nat) (t : List Int), ts[j]? = some t → ∃ G cc, vs[j]? = some (.slice (some ⟨G, 0, none⟩) t.length cc) ∧ OwnB wr lo G t.length cc t ∧ Byt t ∧ t.length ≤ 40001
theorem Rw.kept {wr w1 : World} {lo h : Nat} {vs : List Value} {ts : List (List Int)} (hr : Rw wr lo vs ts) (hg : wr.grownBy w1 (some h)) (hne : ∀ (G n c : Nat) (t : List Int), OwnB wr lo G n c t → G ≠ h) : Rw w1 lo vs ts := fun j t ht => by
  obtain ⟨G, cc, h1, h2, h3, h4⟩ := hr j t ht
  exact ⟨G, cc, h1, own_kept h2 hg (hne _ _ _ _ h2), h3, h4⟩
theorem Rw.later {wr w1 : World} {lo : Nat} {vs : List Value} {ts : List (List Int)} (hr : Rw wr lo vs ts) (hb : Below wr.heap.size wr w1) : Rw w1 lo vs ts := fun j t ht => by
  obtain ⟨G, cc, h1, h2, h3, h4⟩ := hr j t ht
  exact ⟨G, cc, h1, ownsRow_below h2 hb, h3, h4⟩
abbrev OwnV (w : World) (B g n cap : Nat) (vs : List Value) : Prop := w.ownsRow B 22 1 (.slice (some ⟨g, 0, none⟩) n cap) n vs
/-- the state of the draw -/
structure NS (w : World) (B g : Nat) (a : Option Addr) (len cap : Nat) (wr : World) (gn n cn : Nat) (A : List ByteArray) (gb m cb : Nat) (vs : List Value) (ts : List (List Int)) : Prop where
  ds : DS w B g a len cap wr
  on : OwnS wr w.heap.size gn n cn A
  ob : OwnV wr w.heap.size gb m cb vs
  len : ts.length = m
  rows : Rw wr w.heap.size vs ts
  nms : ∀ s ∈ A, s.size ≤ 40
section
variable {w wr w1 : World} {B g : Nat} {a : Option Addr} {len cap gn n cn gb m cb : Nat} {A : List ByteArray} {vs : List Value} {ts : List (List Int)}
theorem NS.step (h : NS w B g a len cap wr gn n cn A gb m cb vs ts) (hB : B ≤ g) (hg : g < w.heap.size) (hc : CurAt w1 g a len cap) (hgr : wr.grownBy w1 (some g)) : NS w B g a len cap w1 gn n cn A gb m cb vs ts :=
  ⟨h.ds.step hB hc hgr, own_kept h.on hgr (by have := own_ge h.on; omega), own_kept h.ob hgr (by have := own_ge h.ob; omega), h.len, h.rows.kept hgr (fun G n c t ho => by have := own_ge ho; omega), h.nms⟩
theorem NS.later (h : NS w B g a len cap wr gn n cn A gb m cb vs ts) (hB : B ≤ g) (hb : Below wr.heap.size wr w1) : NS w B g a len cap w1 gn n cn A gb m cb vs ts :=
  ⟨h.ds.later hB hb, ownsRow_below h.on hb, ownsRow_below h.ob hb, h.len, h.rows.later hb, h.nms⟩
theorem NS.appN {gn' cn' : Nat} {s : ByteArray} (h : NS w B g a len cap wr gn n cn A gb m cb vs ts) (hBw : B ≤ w.heap.size) (hg : g < w.heap.size) (ho : OwnS w1 w.heap.size gn' (n + 1) cn' (A ++ [s])) (hgr : wr.grownBy w1 (some gn)) (hs : s.size ≤ 40) : NS w B g a len cap w1 gn' (n + 1) cn' (A ++ [s]) gb m cb vs ts :=
  have hb : Below w.heap.size wr w1 := (Below.refl _ _).grown hgr (h.ds.gr.size) (fun k hk => by injection hk with hk; subst hk; exact own_ge h.on)
  ⟨h.ds.app hBw hg hb, ho, own_kept h.ob hgr (ne_type h.ob h.on (by decide)), h.len, h.rows.kept hgr (fun G n c t ho => ne_type ho h.on (by decide)), fun x hx => by
    rcases List.mem_append.1 hx with hx | hx
    · exact h.nms x hx
    · simp at hx; subst hx; exact hs⟩
theorem NS.appB {gb' cb' G cc : Nat} {t : List Int} (h : NS w B g a len cap wr gn n cn A gb m cb vs ts) (hBw : B ≤ w.heap.size) (hg : g < w.heap.size) (ho : OwnV w1 w.heap.size gb' (m + 1) cb' (vs ++ [.slice (some ⟨G, 0, none⟩) t.length cc])) (hgr : wr.grownBy w1 (some gb)) (ht : OwnB wr w.heap.size G t.length cc t) (hy : Byt t) (hl : t.length ≤ 40001) : NS w B g a len cap w1 gn n cn A gb' (m + 1) cb' (vs ++ [.slice (some ⟨G, 0, none⟩) t.length cc]) (ts ++ [t]) :=
  have hb : Below w.heap.size wr w1 := (Below.refl _ _).grown hgr (h.ds.gr.size) (fun k hk => by injection hk with hk; subst hk; exact own_ge h.ob)
  have hvl : vs.length = m := by have := h.ob.1; simpa using this
  ⟨h.ds.app hBw hg hb, own_kept h.on hgr (ne_type h.on h.ob (by decide)), ho, by simp [h.len], fun j u hu => by
    by_cases e : j < ts.length
    · rw [List.getElem?_append_left e] at hu
      obtain ⟨G', c', h1, h2, h3, h4⟩ := h.rows j u hu
      exact ⟨G', c', by rw [List.getElem?_append_left (by have := h.len; omega)]; exact h1, own_kept h2 hgr (ne_type h2 h.ob (by decide)), h3, h4⟩
    · rw [List.getElem?_append_right (by omega)] at hu
      have : j - ts.length = 0 := by have := (List.getElem?_eq_some_iff.1 hu).1; simp at this; omega
      rw [this] at hu
      simp at hu
      subst hu
      refine ⟨G, cc, ?_, own_kept ht hgr (ne_type ht h.ob (by decide)), hy, hl⟩
      have e2 : j = vs.length := by have := h.len; omega
      rw [e2]; simp, h.nms⟩
theorem NS.tks (h : NS w B g a len cap wr gn n cn A gb m cb vs ts) : Tks wr (some ⟨gb, 0, none⟩) ts := fun j t ht => by
  obtain ⟨G, cc, h1, h2, h3, h4⟩ := h.rows j t ht
  refine ⟨gb, 0, some ⟨G, 0, none⟩, cc, rfl, own_lt h.ob, ?_, bys_own h2, by unfold maxLen; omega⟩
  rw [Nat.zero_add]
  have hj : j < vs.length := (List.getElem?_eq_some_iff.1 h1).1
  have := h.ob.cellAt j (by have := h.ob.1; omega)
  rw [this]; exact h1
theorem NS.byt (h : NS w B g a len cap wr gn n cn A gb m cb vs ts) : ∀ t ∈ ts, Byt t := fun t ht => by
  obtain ⟨j, hj⟩ := List.getElem?_of_mem ht
  obtain ⟨G, cc, h1, h2, h3, h4⟩ := h.rows j t hj
  exact h3
theorem NS.size (h : NS w B g a len cap wr gn n cn A gb m cb vs ts) : w.heap.size ≤ wr.heap.size := h.ds.gr.size
end
theorem infoV : (Try.prog.info? 22).map (fun i => (i.zero, i.size, i.bytes)) = some (some (.slice none 0 0), 1, 24) := by kernel_rfl
theorem wpList_tG {ops : Array Oper} {rest : List Oper} {o : Oper} {a : Act} {Q : Exit → Act → World → Prop} (w : World) (hgd : o.guard = none) (s x : Operand) (ho : o.op = .call { callee := .builtin .append, args := #[s, x], argTypes := #[25, 25] })
    (B g n cap : Nat) (L : List Value) (G N C : Nat) (hs : a.eval s = .slice (some ⟨g, 0, none⟩) n cap) (hown : OwnV w B g n cap L) (hx : a.eval x = .slice (some ⟨w.heap.size, 0, none⟩) 1 1)
    (hl : n ≤ 1000000) (hB : B ≤ w.heap.size)
    (h : ∀ g' cap' w', OwnV w' B g' (n + 1) cap' (L ++ [.slice (some ⟨G, 0, none⟩) N C]) → w.grownBy w' (some g) → B ≤ g' → (g' = g ∨ w.heap.size ≤ g') → wpList Try.prog ops Q rest (a.put o.dst (.slice (some ⟨g', 0, none⟩) (n + 1) cap')) w') : wpList Try.prog ops Q (o :: rest) a (w.alloc (.cells #[.slice (some ⟨G, 0, none⟩) N C] 22)) := by
  obtain ⟨i0, hi, hz0, hz1, hz2⟩ := info_parts infoV
  have hb : Below w.heap.size w (w.alloc (.cells #[.slice (some ⟨G, 0, none⟩) N C] 22)) := (Below.refl _ _).alloc (Nat.le_refl _) _
  have hblk : (w.alloc (.cells #[.slice (some ⟨G, 0, none⟩) N C] 22)).heap[w.heap.size]? = some (.cells #[.slice (some ⟨G, 0, none⟩) N C] 22 (0, 0)) := heap_alloc_new w _
  have hnews : ∀ (j : Nat) (u : Value), [Value.slice (some ⟨G, 0, none⟩) N C][j]? = some u → (w.alloc (.cells #[.slice (some ⟨G, 0, none⟩) N C] 22)).cell? ((⟨w.heap.size, 0, none⟩ : Addr).add j) = some u := by
    have := World.news_of_block hblk
    simpa using this
  have hsz := hb.size
  generalize w.alloc (.cells #[.slice (some ⟨G, 0, none⟩) N C] 22) = W at *
  have hown2 := ownsRow_below hown hb
  have hBg : B ≤ g := (hown.lt g rfl).1
  refine wpList_append_lies W hgd s x 25 ho B 22 i0 (.slice none 0 0) 1 24 Try.underlying25 hi hz0 hz1 hz2 rfl (by decide) _ n L hs hown2 ⟨w.heap.size, 0, none⟩ 1 1 [.slice (some ⟨G, 0, none⟩) N C] hx rfl hnews (by intro u hu; simp at hu; subst hu; rfl) (by decide) (by unfold maxLen; omega) (by omega) (by omega) W.heap.size rfl ?_
  intro g' cap' w' h1 h2 h3 h4
  refine h g' cap' w' h1 ?_ (own_ge h1) ?_
  · exact grown_trans ⟨hb.os, hb.tape, hb.output, hb.size, fun j hj _ => hb.block j hj⟩ h2
  · rcases h3 with h3 | h3
    · simp [Value.ownBlock] at h3; exact .inl h3.symm
    · exact .inr (by omega)
theorem ownV_lit0 (w : World) {B : Nat} (hB : B ≤ w.heap.size) : OwnV (w.alloc (.cells #[] 22)) B w.heap.size 0 0 [] := by
  have h := World.ownsRow_lit (base := B) (e := 22) (size := 1) w #[] 0 hB (by unfold maxLen; omega) rfl
  exact h
theorem lit_at8 {w : World} {T : TypeId} {a0 a1 a2 a3 a4 a5 a6 a7 : ByteArray} (h : ∀ s ∈ [a0, a1, a2, a3, a4, a5, a6, a7], s.size ≤ 40) (k : Nat) (hk : k < 8) : ∃ v : ByteArray, v.size ≤ 40 ∧ (w.alloc (.cells #[.string a0, .string a1, .string a2, .string a3, .string a4, .string a5, .string a6, .string a7] T)).cell? ⟨w.heap.size, k, none⟩ = some (.string v) := by
  have hc : k = 0 ∨ k = 1 ∨ k = 2 ∨ k = 3 ∨ k = 4 ∨ k = 5 ∨ k = 6 ∨ k = 7 := by omega
  rcases hc with rfl | rfl | rfl | rfl | rfl | rfl | rfl | rfl
  · exact ⟨a0, h _ (by simp), by simp [go_sem]⟩
  · exact ⟨a1, h _ (by simp), by simp [go_sem]⟩
  · exact ⟨a2, h _ (by simp), by simp [go_sem]⟩
  · exact ⟨a3, h _ (by simp), by simp [go_sem]⟩
  · exact ⟨a4, h _ (by simp), by simp [go_sem]⟩
  · exact ⟨a5, h _ (by simp), by simp [go_sem]⟩
  · exact ⟨a6, h _ (by simp), by simp [go_sem]⟩
  · exact ⟨a7, h _ (by simp), by simp [go_sem]⟩
/-- names and bodies are drawn -/
def AnD (w : World) (B g : Nat) (a : Option Addr) (len cap : Nat) (e : Ending) (w' : World) : Prop := ∃ gn n cn A gb cb vs ts, e = .returned (.tuple #[.slice (some ⟨gn, 0, none⟩) n cn, .slice (some ⟨gb, 0, none⟩) n cb]) ∧ n ≤ 6 ∧ NS w B g a len cap w' gn n cn A gb n cb vs ts
theorem ns_new {w : World} {B g : Nat} {a : Option Addr} {len cap : Nat} (hB : B ≤ g) (hc : CurAt w g a len cap) (hr : RdB w B a len) : NS w B g a len cap ((w.alloc (.cells #[] 9)).alloc (.cells #[] 22)) w.heap.size 0 0 [] (w.heap.size + 1) 0 0 [] [] := by
  have b1 : Below w.heap.size w (w.alloc (.cells #[] 9)) := (Below.refl _ _).alloc (Nat.le_refl _) _
  have b2 : Below (w.alloc (.cells #[] 9)).heap.size (w.alloc (.cells #[] 9)) ((w.alloc (.cells #[] 9)).alloc (.cells #[] 22)) := (Below.refl _ _).alloc (Nat.le_refl _) _
  have o1 := ownsRow_below (ownS_lit0 w (Nat.le_refl w.heap.size)) b2
  have o2 := ownV_lit0 (w.alloc (.cells #[] 9)) (B := w.heap.size) b1.size
  have e : (w.alloc (.cells #[] 9)).heap.size = w.heap.size + 1 := by simp
  rw [e] at o2
  have D : DS w B g a len cap w := ⟨hc, hr, grown_refl _ _⟩
  exact ⟨(D.later hB b1).later hB b2, o1, o2, rfl, fun j t h => by simp at h, fun s h => by simp at h⟩

set_option maxRecDepth 100000 in
set_option maxHeartbeats 3200000 in
theorem dnm_any (B g : Nat) (a : Option Addr) (len cap : Nat) (w : World) (hB : B ≤ g) (hBw : B ≤ w.heap.size) (hl : len ≤ 9223372036854775807) (hc : CurAt w g a len cap) (hr : RdB w B a len) :
    Calls Try.prog 13 #[.pointer (some ⟨g, 0, none⟩)] w (AnD w B g a len cap) := by
  have hgl := hc.lt
  have N0 := hide (ns_new hB hc hr)
  clear hc hr
  go_enter Try.func13, Try.ntmps13
  go_wp2_with fail
  generalize (w.alloc (.cells #[] 9)).alloc (.cells #[] 22) = X at *
  refine (below_any B g a len cap 6 _ hB hl (unhide N0).ds.cur (unhide N0).ds.rd (by omega)).mono ?_
  rintro e w1 ⟨x, rfl, x0, x1, k1, g1⟩
  obtain ⟨N, rfl⟩ := Int.eq_ofNat_of_zero_le x0
  have N1 := hide ((unhide N0).step hB hgl k1 g1)
  clear k1 g1 N0
  go_wp2
  go_loopw [4, 5, 6] (fun u v t wr => ∃ (k n gn cn gb cb : Nat) (A : List ByteArray) (vs : List Value) (ts : List (List Int)), k + n ≤ 6 ∧ t = .int .i64 k ∧ u = .slice (some ⟨gn, 0, none⟩) n cn ∧ v = .slice (some ⟨gb, 0, none⟩) n cb ∧ Hid (NS w B g a len cap wr gn n cn A gb n cb vs ts)) (fun _ _ t _ => (intOf t).toNat)
  case atStart => exact ⟨N, 0, w.heap.size, 0, w.heap.size + 1, 0, [], [], [], by omega, rfl, rfl, rfl, N1⟩
  case round =>
    clear N1
    obtain ⟨k, n, gn, cn, gb, cb, A, vs, ts, hkn, rfl, rfl, rfl, S⟩ := hrel
    by_cases hlt : 0 < k
    rotate_left
    · have gg : decide ((0 : Int) < k) = false := by simp; omega
      have ggn : decide (0 < k) = false := by simp; omega
      go_wp2
      go_ret2
      exact ⟨gn, n, cn, A, gb, cb, vs, ts, rfl, by omega, unhide S⟩
    have gg : decide ((0 : Int) < k) = true := by simp; omega
    have ggn : decide (0 < k) = true := by simp; omega
    have hla := hide (fun q hq => lit_at8 (w := wr) (T := 9) (a0 := ⟨#[114, 101, 101, 108]⟩) (a1 := ⟨#[97]⟩) (a2 := ⟨#[98, 95, 49]⟩) (a3 := ⟨#[77, 73, 88, 46, 119, 97, 118]⟩) (a4 := ⟨#[114, 101, 101, 108, 49]⟩) (a5 := ⟨#[90]⟩) (a6 := ⟨#[115, 117, 98, 46, 116, 120, 116]⟩) (a7 := ⟨#[48]⟩) (by decide) q hq)
    have S1 := hide ((unhide S).later hB ((Below.refl wr.heap.size wr).alloc (Nat.le_refl _) (.cells #[.string ⟨#[114, 101, 101, 108]⟩, .string ⟨#[97]⟩, .string ⟨#[98, 95, 49]⟩, .string ⟨#[77, 73, 88, 46, 119, 97, 118]⟩, .string ⟨#[114, 101, 101, 108, 49]⟩, .string ⟨#[90]⟩, .string ⟨#[115, 117, 98, 46, 116, 120, 116]⟩, .string ⟨#[48]⟩] 9)))
    have hsz := (unhide S).size
    clear S
    go_wp2_with fail
    generalize wr.alloc _ = Y at *
    refine (below_any B g a len cap 8 _ hB hl (unhide S1).ds.cur (unhide S1).ds.rd (by omega)).mono ?_
    rintro e w2 ⟨x, rfl, x0, x1, k1, g1⟩
    obtain ⟨q, rfl⟩ := Int.eq_ofNat_of_zero_le x0
    obtain ⟨s, hs7, hv⟩ := unhide hla q (by omega)
    have hv1 := grown_cell g1 (by omega) hv
    have S2 := hide ((unhide S1).step hB hgl k1 g1)
    clear hv k1 g1 S1 hla
    go_wp2
    go_loop [8, 9] (fun u t => ∃ (v : Bool) (j : Nat), j ≤ n ∧ u = .bool v ∧ t = .int .i64 j) (fun _ t => n - (intOf t).toNat)
    case atStart => exact ⟨false, 0, by omega, rfl, rfl⟩
    case round =>
      obtain ⟨v, j, hjn, rfl, rfl⟩ := hrel
      by_cases hlj : j < n
      · have g2 : decide ((j : Int) < n) = true := by simp; omega
        have hAl := ownS_len (unhide S2).on
        obtain ⟨r, hr⟩ : ∃ r, A[j]? = some r := ⟨A[j]'(by omega), List.getElem?_eq_getElem _⟩
        have c0 := ownS_at hr (unhide S2).on
        clear hr hAl
        cases v with
        | true =>
          go_wp2
          go_round
          case rel => exact ⟨true, j + 1, by omega, rfl, by go_num⟩
          case measure => simp [intOf]; omega
        | false =>
          go_wp2
          go_round
          case rel => exact ⟨_, j + 1, by omega, rfl, by go_num⟩
          case measure => simp [intOf]; omega
      · have g2 : decide ((j : Int) < n) = false := by simp; omega
        cases v with
        | false =>
          go_wp2_with (with_reducible refine wpList_sG w2 rfl _ _ rfl w.heap.size gn n cn A s rfl (unhide S2).on rfl (by omega) (unhide S2).size ?_)
          intro g' c' w' o' b' q1 q2
          have S5 := hide ((unhide S2).appN hBw hgl o' b' hs7)
          clear o' b' q1 q2 S2
          go_wp2_with fail
          refine (dbody_any B g a len cap _ hB (Nat.le_trans hBw (unhide S5).size) hl (unhide S5).ds.cur (unhide S5).ds.rd).mono ?_
          rintro e w6 ⟨G, cc, t, rfl, oT, yT, lT, D⟩
          have S6 := hide ((unhide S5).step hB hgl D.cur D.gr)
          have oT := hide (own_mono oT (unhide S5).size)
          have yT := hide yT
          clear D S5
          go_wp2_with (with_reducible refine wpList_tG w6 rfl _ _ rfl w.heap.size gb n cb vs G t.length cc rfl (unhide S6).ob rfl (by omega) (unhide S6).size ?_)
          intro g6 c6 w7 o6 b6 q3 q4
          have S7 := hide ((unhide S6).appB hBw hgl o6 b6 (unhide oT) (unhide yT) lT)
          clear o6 b6 q3 q4 S6 oT yT
          go_wp2
          go_roundw
          case rel => exact ⟨k - 1, n + 1, g', c', g6, c6, _, _, _, by omega, by go_num, by go_num, by go_num, S7⟩
          case measure => simp [intOf]; omega
        | true =>
          go_wp2_with fail
          refine (once_any B g a len cap 20 _ hB hl (unhide S2).ds.cur (unhide S2).ds.rd (by omega)).mono ?_
          rintro e w3 ⟨v, rfl, k1, g1⟩
          have S3 := hide ((unhide S2).step hB hgl k1 g1)
          clear k1 g1 S2
          cases v with
          | false =>
            go_wp2
            go_roundw
            case rel => exact ⟨k - 1, n, gn, cn, gb, cb, _, _, _, by omega, by go_num, rfl, rfl, S3⟩
            case measure => simp [intOf]; omega
          | true =>
            go_wp2_with (with_reducible refine wpList_sG w3 rfl _ _ rfl w.heap.size gn n cn A s rfl (unhide S3).on rfl (by omega) (unhide S3).size ?_)
            intro g' c' w' o' b' q1 q2
            have S5 := hide ((unhide S3).appN hBw hgl o' b' hs7)
            clear o' b' q1 q2 S3
            go_wp2_with fail
            refine (dbody_any B g a len cap _ hB (Nat.le_trans hBw (unhide S5).size) hl (unhide S5).ds.cur (unhide S5).ds.rd).mono ?_
            rintro e w6 ⟨G, cc, t, rfl, oT, yT, lT, D⟩
            have S6 := hide ((unhide S5).step hB hgl D.cur D.gr)
            have oT := hide (own_mono oT (unhide S5).size)
            have yT := hide yT
            clear D S5
            go_wp2_with (with_reducible refine wpList_tG w6 rfl _ _ rfl w.heap.size gb n cb vs G t.length cc rfl (unhide S6).ob rfl (by omega) (unhide S6).size ?_)
            intro g6 c6 w7 o6 b6 q3 q4
            have S7 := hide ((unhide S6).appB hBw hgl o6 b6 (unhide oT) (unhide yT) lT)
            clear o6 b6 q3 q4 S6 oT yT
            go_wp2
            go_roundw
            case rel => exact ⟨k - 1, n + 1, g', c', g6, c6, _, _, _, by omega, by go_num, by go_num, by go_num, S7⟩
            case measure => simp [intOf]; omega

end Go.Proofs.Ytghglpcfpokmhaa

set_option linter.unusedVariables false
set_option linter.unusedSimpArgs false
namespace Go.Proofs.Ytghglpcfpokmhaa
open Go.RowKit
theorem zeroCells_one (z : Value) (n : Nat) : Builtin.zeroCells #[z] n = (List.replicate n z).toArray := by
  apply Array.ext
  · simp [Builtin.zeroCells]
  · intro i h1 h2
    simp [Builtin.zeroCells, Nat.mod_one]
theorem run_append_ownz {P : Program} (w : World) (t tn ty e : TypeId) (i : TypeInfo) (z : Value) (kq kn : IntKind) (ht : P.underlying t = some (.slice e)) (htn : P.underlying tn = some (.int kn)) (hi : P.info? e = some i) (hz : i.zero = some z)
    (hs1 : i.size = 1) (hb : i.bytes = 24) (hzc : z.cells = #[z]) (h1 : z.oneCell' = true) (base g n cap : Nat) (xs : List Value) (hown : w.ownsRow base e 1 (.slice (some ⟨g, 0, none⟩) n cap) n xs) (k : Nat) (h0 : 0 < k) (hn : n + k ≤ 1000000) (hB : base ≤ w.heap.size) :
    ∃ g' cap' w', (Builtin.append_ #[t, tn] ty #[.slice (some ⟨g, 0, none⟩) n cap, .int kq k]).run P w = .ok (.slice (some ⟨g', 0, none⟩) (n + k) cap') w' ∧ w'.ownsRow base e 1 (.slice (some ⟨g', 0, none⟩) (n + k) cap') (n + k) (xs ++ List.replicate k z) ∧ w.grownBy w' (some g) := by
  have hlen : (xs ++ List.replicate k z).length = (n + k) * 1 := by have := hown.1; simp at this ⊢; omega
  have hxl : xs.length = n := by have := hown.1; simpa using this
  have hk : k ≠ 0 := by omega
  have hw : IntKind.i64.wrap (k : Int) = k := by rw [IntKind.wrap_i64]; omega
  have hneg : ¬ ((k : Int) < 0) := by omega
  have hns : ¬ (k * i.size = 0) := by rw [hs1]; omega
  have h48i : ¬ (281474976710656 < (k : Int) * (i.bytes : Int)) := by rw [hb]; omega
  rcases hown.2 with ⟨hv, _⟩ | ⟨g', cap', cur, hv, hbg, hg, hnc, hcm, hcs, htake⟩
  · cases hv
  · injection hv with e1 e2 e3
    injection e1 with e1
    injection e1 with e1
    subst e1 e3
    by_cases hroom : n + k ≤ cap
    · have hfit : n * 1 + (List.replicate k z).length ≤ cur.size := by simp; omega
      have hst := run_storeCells_at P g (n * 1) e (List.replicate k z) 0 cur w hg (by simpa using hfit) (fun u hu => by rw [(List.mem_replicate.1 hu).2]; exact h1)
      simp only [Nat.add_zero, Nat.mul_one] at hst
      have h24 : ¬ (281474976710656 < (k : Int) * 24) := by omega
      have hr : (Builtin.append_ #[t, tn] ty #[.slice (some ⟨g, 0, none⟩) n cap, .int kq k]).run P w = .ok (.slice (some ⟨g, 0, none⟩) (n + k) cap) (w.setRow g (cur.toList.take n ++ List.replicate k z ++ cur.toList.drop (n + (List.replicate k z).length)).toArray) := by
        simp [Builtin.append_, run_underlying ht, run_underlying htn, sizeOf, typeInfo, zeroValue, hi, hz, asInt, asIntOf, hw, hk, hneg, hs1, hb, h24, hroom, hzc, zeroCells_one, Addr.add_lit, hst]
      refine ⟨g, cap, _, hr, ⟨hlen, .inr ⟨g, cap, _, rfl, hbg, setRow_heap w g cur _ e _ hg, hroom, hcm, ?_, ?_⟩⟩, ⟨rfl, rfl, rfl, by simp, fun j _ hj => setRow_other w g j _ (fun e => hj (by rw [e]))⟩⟩
      · simp only [List.size_toArray, List.length_append, List.length_take, List.length_drop, Array.length_toList, List.length_replicate]
        simp at hfit
        omega
      · have ht2 : cur.toList.take n = xs := by simpa using htake
        rw [ht2, ← hlen]
        exact List.take_left
    · have holds : ∀ j u, xs[j]? = some u → w.cell? ((⟨g, 0, none⟩ : Addr).add j) = some u := hown.cells (g := g) rfl
      have hf : (Builtin.firstCells i.size n (.slice (some ⟨g, 0, none⟩) n cap)).run P w.drew = .ok xs.toArray w.drew := by
        rw [hs1]
        exact run_firstCells_some (P := P) w.drew 1 n ⟨g, 0, none⟩ n cap xs (by omega) (fun j u hu => holds j u hu)
      have hr := Lib.run_append_grow_zeros (P := P) w t tn ty e i z kq kn ht htn hi hz (some ⟨g, 0, none⟩) n cap xs hf k h0 (by omega) (by omega) (by omega) (by rw [hb]; omega) (by rw [hb]; exact growslice_fits (by omega) (by omega))
      have hge := grownCap_ge w (n + k) cap e
      have hcm' : grownCap w (n + k) cap e ≤ maxLen := grownCap_le_maxLen w (n + k) cap e (by unfold maxLen; omega)
      refine ⟨_, _, _, hr, ⟨hlen, .inr ⟨w.heap.size, _, _, rfl, hB, heap_alloc_new w.drew _, hge, hcm', ?_, ?_⟩⟩, ⟨rfl, rfl, rfl, by simp, fun j hj _ => heap_alloc_old w.drew _ hj⟩⟩
      · simp only [hzc, zeroCells_one, Array.size_append, List.size_toArray, List.length_replicate]
        omega
      · simp only [hzc, zeroCells_one, Array.toList_append, List.append_assoc]
        rw [← List.append_assoc, ← hlen]
        exact List.take_left
theorem own_cut {w : World} {base e g n k cap : Nat} {xs ys : List Value} (hown : w.ownsRow base e 1 (.slice (some ⟨g, 0, none⟩) (n + k) cap) (n + k) (xs ++ ys)) (hx : xs.length = n) : w.ownsRow base e 1 (.slice (some ⟨g, 0, none⟩) n cap) n xs := by
  rcases hown.2 with ⟨hv, _⟩ | ⟨g', cap', cur, hv, hbg, hg, hnc, hcm, hcs, htake⟩
  · cases hv
  · injection hv with e1 e2 e3
    injection e1 with e1
    injection e1 with e1
    subst e1 e3
    refine ⟨by omega, .inr ⟨g, cap, cur, rfl, hbg, hg, by omega, hcm, hcs, ?_⟩⟩
    have : cur.toList.take (n * 1) = (cur.toList.take ((n + k) * 1)).take n := by rw [List.take_take]; congr 1; omega
    rw [this, htake, ← hx]
    exact List.take_left
end Go.Proofs.Ytghglpcfpokmhaa
