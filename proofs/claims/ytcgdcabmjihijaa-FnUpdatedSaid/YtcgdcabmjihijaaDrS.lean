/-
  Contracts of the model's draws of a number, of a secret and of a body: some answer; the cursor alone is written.
-/
import Derived.Test.YtcgdcabmjihijaaDrC
import Derived.Test.YtcgdcabmjihijaaBy
import Derived.Lib.MinMax
namespace Go.Proofs.Ytcgdcabmjihijaa
open Go.RowKit
set_option linter.unusedVariables false
set_option linter.unusedSimpArgs false

/-- the state of the draw of a list: the cursor, the list -/
structure BS (w : World) (B g : Nat) (a : Option Addr) (len cap : Nat) (wr : World) (gb n c : Nat) (L : List Int) : Prop where
  ds : DS w B g a len cap wr
  ow : OwnB wr w.heap.size gb n c L
theorem BS.step {w wr w1 : World} {B g : Nat} {a : Option Addr} {len cap gb n c : Nat} {L : List Int} (h : BS w B g a len cap wr gb n c L) (hB : B ≤ g) (hg : g < w.heap.size) (hc : CurAt w1 g a len cap) (hgr : wr.grownBy w1 (some g)) : BS w B g a len cap w1 gb n c L :=
  ⟨h.ds.step hB hc hgr, own_kept h.ow hgr (by have := own_ge h.ow; omega)⟩
theorem BS.later {w wr w1 : World} {B g : Nat} {a : Option Addr} {len cap gb n c : Nat} {L : List Int} (h : BS w B g a len cap wr gb n c L) (hB : B ≤ g) (hb : Below wr.heap.size wr w1) : BS w B g a len cap w1 gb n c L :=
  ⟨h.ds.later hB hb, ownsRow_below h.ow hb⟩
theorem DS.app {w wr w1 : World} {B g : Nat} {a : Option Addr} {len cap : Nat} (h : DS w B g a len cap wr) (hB : B ≤ w.heap.size) (hg : g < w.heap.size) (hb : Below w.heap.size wr w1) : DS w B g a len cap w1 := by
  refine ⟨h.cur.other (hb.block g hg), ?_, ?_⟩
  · intro j hj
    obtain ⟨b, o, z, e, hb2, hc, h0, h1⟩ := h.rd j hj
    exact ⟨b, o, z, e, hb2, (hb.cell (p := ⟨b, o + j, none⟩) (by show b < _; omega)).trans hc, h0, h1⟩
  · exact ⟨hb.os.trans h.gr.os, hb.tape.trans h.gr.tape, hb.output.trans h.gr.output, Nat.le_trans h.gr.size hb.size, fun j hj hn => (hb.block j hj).trans (h.gr.block j hj hn)⟩
theorem BS.app {w wr w1 : World} {B g : Nat} {a : Option Addr} {len cap gb n c gb' n' c' : Nat} {L L' : List Int} (h : BS w B g a len cap wr gb n c L) (hB : B ≤ w.heap.size) (hg : g < w.heap.size) (hb : Below w.heap.size wr w1) (ho : OwnB w1 w.heap.size gb' n' c' L') : BS w B g a len cap w1 gb' n' c' L' :=
  ⟨h.ds.app hB hg hb, ho⟩
theorem BS.low {w0 w wr : World} {B g : Nat} {a : Option Addr} {len cap gb n c : Nat} {L : List Int} (h : BS w B g a len cap wr gb n c L) (hb : Below w0.heap.size w0 w) (hg : w0.heap.size ≤ g) : Below w0.heap.size w0 wr := below_grown hb h.ds.gr hg
theorem BS.size {w wr : World} {B g : Nat} {a : Option Addr} {len cap gb n c : Nat} {L : List Int} (h : BS w B g a len cap wr gb n c L) : w.heap.size ≤ wr.heap.size := h.ds.gr.size
theorem lit_at2 {w : World} {T : TypeId} {a0 a1 : Int} (k : Nat) (hk : k < 2) : ∃ v : Int, (w.alloc (.cells #[.int .i64 a0, .int .i64 a1] T)).cell? ⟨w.heap.size, k, none⟩ = some (.int .i64 v) := by
  have hc : k = 0 ∨ k = 1 := by omega
  rcases hc with rfl | rfl
  · exact ⟨a0, by simp [go_sem]⟩
  · exact ⟨a1, by simp [go_sem]⟩
theorem lit_at3 {w : World} {T : TypeId} {a0 a1 a2 : Int} (k : Nat) (hk : k < 3) : ∃ v : Int, (w.alloc (.cells #[.int .i64 a0, .int .i64 a1, .int .i64 a2] T)).cell? ⟨w.heap.size, k, none⟩ = some (.int .i64 v) := by
  have hc : k = 0 ∨ k = 1 ∨ k = 2 := by omega
  rcases hc with rfl | rfl | rfl
  · exact ⟨a0, by simp [go_sem]⟩
  · exact ⟨a1, by simp [go_sem]⟩
  · exact ⟨a2, by simp [go_sem]⟩
theorem lit_at5 {w : World} {T : TypeId} {a0 a1 a2 a3 a4 : Int} (k : Nat) (hk : k < 5) : ∃ v : Int, (w.alloc (.cells #[.int .i64 a0, .int .i64 a1, .int .i64 a2, .int .i64 a3, .int .i64 a4] T)).cell? ⟨w.heap.size, k, none⟩ = some (.int .i64 v) := by
  have hc : k = 0 ∨ k = 1 ∨ k = 2 ∨ k = 3 ∨ k = 4 := by omega
  rcases hc with rfl | rfl | rfl | rfl | rfl
  · exact ⟨a0, by simp [go_sem]⟩
  · exact ⟨a1, by simp [go_sem]⟩
  · exact ⟨a2, by simp [go_sem]⟩
  · exact ⟨a3, by simp [go_sem]⟩
  · exact ⟨a4, by simp [go_sem]⟩
theorem lit_at10 {w : World} {T : TypeId} {a0 a1 a2 a3 a4 a5 a6 a7 a8 a9 : Int} (k : Nat) (hk : k < 10) : ∃ v : Int, (w.alloc (.cells #[.int .i64 a0, .int .i64 a1, .int .i64 a2, .int .i64 a3, .int .i64 a4, .int .i64 a5, .int .i64 a6, .int .i64 a7, .int .i64 a8, .int .i64 a9] T)).cell? ⟨w.heap.size, k, none⟩ = some (.int .i64 v) := by
  have hc : k = 0 ∨ k = 1 ∨ k = 2 ∨ k = 3 ∨ k = 4 ∨ k = 5 ∨ k = 6 ∨ k = 7 ∨ k = 8 ∨ k = 9 := by omega
  rcases hc with rfl | rfl | rfl | rfl | rfl | rfl | rfl | rfl | rfl | rfl
  · exact ⟨a0, by simp [go_sem]⟩
  · exact ⟨a1, by simp [go_sem]⟩
  · exact ⟨a2, by simp [go_sem]⟩
  · exact ⟨a3, by simp [go_sem]⟩
  · exact ⟨a4, by simp [go_sem]⟩
  · exact ⟨a5, by simp [go_sem]⟩
  · exact ⟨a6, by simp [go_sem]⟩
  · exact ⟨a7, by simp [go_sem]⟩
  · exact ⟨a8, by simp [go_sem]⟩
  · exact ⟨a9, by simp [go_sem]⟩
/-- some number is drawn -/
def AnN (w : World) (B g : Nat) (a : Option Addr) (len cap : Nat) (e : Ending) (w' : World) : Prop := ∃ x : Int, e = .returned (.int .i64 x) ∧ CurAt w' g a len cap ∧ w.grownBy w' (some g)
/-- some body is drawn -/
def AnY (w : World) (B g : Nat) (a : Option Addr) (len cap : Nat) (e : Ending) (w' : World) : Prop := ∃ G c L, e = .returned (.slice (some ⟨G, 0, none⟩) L.length c) ∧ OwnB w' w.heap.size G L.length c L ∧ Byt L ∧ L.length ≤ 40001 ∧ DS w B g a len cap w'
theorem AnY.mk {w w' : World} {B g : Nat} {a : Option Addr} {len cap G n c : Nat} {L : List Int} (h : BS w B g a len cap w' G n c L) (hy : Byt L) (hn : n ≤ 40001) : AnY w B g a len cap (.returned (.slice (some ⟨G, 0, none⟩) n c)) w' := by
  have hl := ownB_len h.ow
  subst hl
  exact ⟨G, c, L, rfl, h.ow, hy, hn, h.ds⟩
theorem byt_snoc {L : List Int} {x : Int} (h : Byt L) (h0 : 0 ≤ x) (h1 : x ≤ 255) : Byt (L ++ [x]) := by
  intro z hz
  rcases List.mem_append.1 hz with hz | hz
  · exact h z hz
  · simp at hz; subst hz; exact ⟨h0, h1⟩
theorem byt_rep (n : Nat) : Byt (List.replicate n 0) := by
  intro z hz
  have := List.eq_of_mem_replicate hz
  subst this; omega
set_option maxRecDepth 100000 in
set_option maxHeartbeats 1600000 in
theorem dbody_any (B g : Nat) (a : Option Addr) (len cap : Nat) (w : World) (hB : B ≤ g) (hBw : B ≤ w.heap.size) (hl : len ≤ 9223372036854775807) (hc : CurAt w g a len cap) (hr : RdB w B a len) :
    Calls Try.prog 29 #[.pointer (some ⟨g, 0, none⟩)] w (AnY w B g a len cap) := by
  obtain ⟨i0, hi, hz0, hz1, hz2⟩ := info_parts infoB
  have hD : DS w B g a len cap w := ⟨hc, hr, grown_refl _ _⟩
  have hgl := hc.lt
  have hD1 := hide (show BS w B g a len cap (w.alloc (.cells #[] 5)) w.heap.size 0 0 [] from ⟨hD.later hB ((Below.refl w.heap.size w).alloc (Nat.le_refl _) (.cells #[] 5)), ownB_lit0 w (Nat.le_refl _)⟩)
  clear hc hr hD
  go_enter Try.func29, Try.ntmps29
  go_wp2_with fail
  generalize w.alloc (.cells #[] 5) = X at *
  refine (below_any B g a len cap 10 _ hB hl (unhide hD1).ds.cur (unhide hD1).ds.rd (by omega)).mono ?_
  rintro e w1 ⟨x, rfl, x0, x1, k1, g1⟩
  obtain ⟨N, rfl⟩ := Int.eq_ofNat_of_zero_le x0
  have hD2 := hide ((unhide hD1).step hB hgl k1 g1)
  clear k1 g1 hD1
  go_wp2
  go_loopw [3, 4] (fun u t wr => ∃ (k n gb c : Nat) (L : List Int), k + n ≤ 10 ∧ t = .int .i64 k ∧ u = .slice (some ⟨gb, 0, none⟩) n c ∧ Hid (Byt L) ∧ Hid (BS w B g a len cap wr gb n c L)) (fun _ t _ => (intOf t).toNat)
  case atStart => exact ⟨N, 0, w.heap.size, 0, [], by omega, rfl, rfl, hide (fun z hz => by simp at hz), hD2⟩
  case round =>
    clear hD2
    obtain ⟨k, n, gb, c, L, hkn, rfl, rfl, hyt, St⟩ := hrel
    by_cases hlt : 0 < k
    · have gg : decide ((0 : Int) < k) = true := by simp; omega
      have ggn : decide (0 < k) = true := by simp; omega
      go_wp2_with fail
      refine (byte_any B g a len cap _ hB hl (unhide St).ds.cur (unhide St).ds.rd).mono ?_
      rintro e w3 ⟨x, rfl, x0, x1, k1, g1⟩
      have S3 := hide ((unhide St).step hB hgl k1 g1)
      have hxw : IntKind.u8.wrap x = x := by rw [IntKind.wrap_u8]; omega
      have hxm : x % 256 = x := by omega
      clear k1 g1 St
      go_wp2_with (with_reducible refine wpList_bA w3 rfl _ _ rfl w.heap.size gb n c L x rfl (unhide S3).ow rfl (by omega) (unhide S3).size ?_)
      intro g' c' w' o' b' q1
      have S4 := hide ((unhide S3).app hBw hgl b' o')
      have hy2 := hide (byt_snoc (unhide hyt) x0 x1)
      clear o' b' S3 hyt
      go_wp2
      go_roundw
      case rel => exact ⟨k - 1, n + 1, g', c', L ++ [x], by omega, by go_num, by go_num, hy2, S4⟩
      case measure => simp [intOf]; omega
    · have gg : decide ((0 : Int) < k) = false := by simp; omega
      have ggn : decide (0 < k) = false := by simp; omega
      go_wp2_with fail
      refine (once_any B g a len cap 90 _ hB hl (unhide St).ds.cur (unhide St).ds.rd (by omega)).mono ?_
      rintro e w3 ⟨v, rfl, k1, g1⟩
      have S3 := hide ((unhide St).step hB hgl k1 g1)
      clear k1 g1 St
      cases v with
      | false =>
        have hfin := hide (AnY.mk (unhide S3) (unhide hyt) (by omega))
        clear S3
        go_wp2
        go_ret
        exact unhide hfin
      | true =>
        go_wp2_with fail
        refine (below_any B g a len cap 2 _ hB hl (unhide S3).ds.cur (unhide S3).ds.rd (by omega)).mono ?_
        rintro e w4 ⟨x, rfl, x0, x1, k1, g1⟩
        have D4 := hide ((unhide S3).ds.step hB k1 g1)
        obtain ⟨M, rfl⟩ := Int.eq_ofNat_of_zero_le x0
        have hMM : (40000 : Int) + M = ((40000 + M : Nat) : Int) := by omega
        have hMl : 40000 + M ≤ 40001 := by omega
        obtain ⟨Z, hZ⟩ : ∃ Z, 40000 + M = Z := ⟨_, rfl⟩
        rw [hZ] at hMM hMl
        clear k1 g1 S3 hZ
        have hs4 := (unhide D4).gr.size
        go_wp2_with (with_reducible refine wpList_make_full _ rfl _ _ 22 rfl w.heap.size 5 i0 (.int .u8 0) 1 Try.underlying22 hi hz0 hz1 .i64 .i64 _ _ Z rfl rfl rfl rfl ?b2 ?b3 hs4 ?_)
        case b2 => rw [hz2]; omega
        case b3 => unfold maxLen; omega
        intro w5 hown hg5
        have hb5 : Below w4.heap.size w4 w5 := (Below.refl _ _).grown hg5 (Nat.le_refl _) (fun k hk => by cases hk)
        have S5 := hide (show BS w B g a len cap w5 w4.heap.size Z Z (List.replicate Z 0) from ⟨(unhide D4).later hB hb5, by
          show World.ownsRow _ _ _ _ _ _ _
          rw [← made_B]; exact hown⟩)
        have hfin := hide (AnY.mk (unhide S5) (byt_rep Z) hMl)
        clear S5 D4 hown hg5 hb5
        go_wp2
        go_ret
        exact unhide hfin

end Go.Proofs.Ytcgdcabmjihijaa
