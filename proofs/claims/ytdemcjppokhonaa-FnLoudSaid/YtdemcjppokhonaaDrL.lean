/-
  Contract of the model's draw of a sound, over a cursor on bytes that came in: a new list of at most 4097 numbers; what was there but for the cursor stays.
-/
import Derived.Test.YtdemcjppokhonaaDrF
namespace Go.Proofs.Ytdemcjppokhonaa
open Go.RowKit
set_option linter.unusedVariables false
set_option linter.unusedSimpArgs false

theorem DS.low {w wr w1 : World} {B g : Nat} {a : Option Addr} {len cap : Nat} (h : DS w B g a len cap wr) (hB : B ≤ g) (hg : g < w.heap.size) (hb : Below w.heap.size wr w1) : DS w B g a len cap w1 := by
  refine ⟨h.cur.other (hb.block g hg), ?_, ?_⟩
  · intro j hj
    obtain ⟨b, o, z, e, h1, h2, h3⟩ := h.rd j hj
    exact ⟨b, o, z, e, h1, (World.cell?_of_block (a := ⟨b, o + j, none⟩) (hb.block b (by omega))).trans h2, h3⟩
  · have hs := h.gr.size
    exact ⟨hb.os.trans h.gr.os, hb.tape.trans h.gr.tape, hb.output.trans h.gr.output, by have := hb.size; omega, fun j hj hn => (hb.block j hj).trans (h.gr.block j hj hn)⟩

/-- a list that was drawn -/
def DrL (w : World) (g : Nat) (a : Option Addr) (len cap : Nat) (e : Ending) (w' : World) : Prop :=
  ∃ (gb c : Nat) (L : List Nat), e = .returned (.slice (some ⟨gb, 0, none⟩) L.length c) ∧ L.length ≤ 4097 ∧ w.heap.size ≤ gb ∧ w'.ownsRow w.heap.size 25 1 (.slice (some ⟨gb, 0, none⟩) L.length c) L.length (L.map fl) ∧ CurAt w' g a len cap ∧ w.grownBy w' (some g)

/-- the loop's state -/
structure LS (w : World) (B g : Nat) (a : Option Addr) (len cap : Nat) (wr : World) (gb n c : Nat) (L : List Nat) : Prop where
  ds : DS w B g a len cap wr
  ow : wr.ownsRow w.heap.size 25 1 (.slice (some ⟨gb, 0, none⟩) n c) n (L.map fl)
theorem LS.step {w wr w1 : World} {B g : Nat} {a : Option Addr} {len cap gb n c : Nat} {L : List Nat} (h : LS w B g a len cap wr gb n c L) (hB : B ≤ g) (hg : g < w.heap.size) (hc : CurAt w1 g a len cap) (hgr : wr.grownBy w1 (some g)) : LS w B g a len cap w1 gb n c L :=
  ⟨h.ds.step hB hc hgr, own_kept h.ow hgr (by have := own_ge h.ow; omega)⟩
theorem LS.drew {w wr : World} {B g : Nat} {a : Option Addr} {len cap gb n c : Nat} {L : List Nat} (h : LS w B g a len cap wr gb n c L) (hB : B ≤ g) (N : Nat) : LS w B g a len cap (wr.drewN N) gb n c L :=
  ⟨h.ds.drew hB N, ownsRow_below h.ow (below_drew N)⟩

set_option maxHeartbeats 3200000 in
theorem dls_any (B g : Nat) (a : Option Addr) (len cap : Nat) (w : World) (hB : B ≤ g) (hl : len ≤ 9223372036854775807) (hc : CurAt w g a len cap) (hr : RdB w B a len) :
    Calls Try.prog 36 #[.pointer (some ⟨g, 0, none⟩)] w (DrL w g a len cap) := by
  have hg := hc.lt
  have S0 := hide (show LS w B g a len cap (w.alloc (.cells #[] 25)) w.heap.size 0 0 [] from
    ⟨DS.later ⟨hc, hr, World.grownBy.refl _ _⟩ hB ((Below.refl _ _).alloc (Nat.le_refl _) _), (own_lit w).2⟩)
  clear hc hr
  obtain ⟨i0, hi, hz0, hz1, hz2⟩ := info_parts info22
  go_enter Try.func36, Try.ntmps36
  go_wp2_with fail
  refine (once_any B g a len cap 2 _ hB hl (unhide S0).ds.cur (unhide S0).ds.rd (by omega)).mono ?_
  rintro e w1 ⟨tame, rfl, k1, g1⟩
  have S1 := hide ((unhide S0).step hB hg k1 g1)
  clear S0 k1 g1
  go_wp2_with fail
  refine (below_any B g a len cap 16 _ hB hl (unhide S1).ds.cur (unhide S1).ds.rd (by omega)).mono ?_
  rintro e w2 ⟨i, rfl, x0, x1, k2, g2⟩
  have S2 := hide ((unhide S1).step hB hg k2 g2)
  obtain ⟨m, rfl⟩ : ∃ m : Nat, i = m := ⟨i.toNat, by omega⟩
  clear S1 k2 g2
  go_wp2
  go_loopw [3, 5] (fun s t wr => ∃ (k n gb c : Nat) (L : List Nat), k + n ≤ 16 ∧ t = .int .i64 k ∧ s = .slice (some ⟨gb, 0, none⟩) n c ∧ L.length = n ∧ Hid (LS w B g a len cap wr gb n c L)) (fun _ t _ => (intOf t).toNat)
  case atStart => exact ⟨m, 0, w.heap.size, 0, [], by omega, rfl, rfl, rfl, S2⟩
  case round =>
    clear S2
    obtain ⟨k, n, gb, c, L, hk, rfl, rfl, hLn, hS⟩ := hrel
    by_cases hk0 : 0 < k
    · go_wp2_with fail
      refine (dfl_any B g a len cap _ hB hl (unhide hS).ds.cur (unhide hS).ds.rd).mono ?_
      rintro e w3 ⟨x, rfl, k3, g3⟩
      have S3 := hide ((unhide hS).step hB hg k3 g3)
      clear hS k3 g3
      cases tame
      · have s3 := (unhide S3).ds.gr.size
        go_wp2_with (refine wpList_flA w3 rfl _ _ rfl w.heap.size gb n c L x rfl (unhide S3).ow rfl (by omega) s3 ?_)
        intro g' cap' w' hown' hbel' hg'
        have S4 := hide (show LS w B g a len cap w' g' (n + 1) cap' (L ++ [x]) from ⟨(unhide S3).ds.low hB hg hbel', by simpa using hown'⟩)
        clear hown' hbel' S3
        go_wp2
        go_roundw
        case rel => exact ⟨k - 1, n + 1, g', cap', _, by omega, by go_num, rfl, by simp; omega, S4⟩
        case measure => simp [intOf]; omega
      · go_wp2_with fail
        refine (from_any B g a len cap (-40) 40 _ hB hl (unhide S3).ds.cur (unhide S3).ds.rd (by omega) (by omega) (by omega)).mono ?_
        rintro e w4 ⟨y, rfl, k4, g4⟩
        have S4 := hide ((unhide S3).step hB hg k4 g4)
        have s4 := (unhide S4).ds.gr.size
        clear S3 k4 g4
        go_wp2_with (refine wpList_flN w4 _ rfl _ _ rfl w.heap.size gb n c L _ rfl (unhide S4).ow rfl (by omega) s4 ?_)
        intro g' cap' w' hown' hbel' hg'
        have S5 := hide (show LS w B g a len cap w' g' (n + 1) cap' (L ++ [fv .quo (floatOfInt .f64 y) 4620693217682128896 w4]) from ⟨(unhide S4).ds.low hB hg hbel', by simpa using hown'⟩)
        clear hown' hbel' S4
        go_wp2
        go_roundw
        case rel => exact ⟨k - 1, n + 1, g', cap', _, by omega, by go_num, rfl, by simp; omega, S5⟩
        case measure => simp [intOf]; omega
    · have hk1 : k = 0 := by omega
      subst hk1
      go_wp2_with fail
      refine (once_any B g a len cap 60 _ hB hl (unhide hS).ds.cur (unhide hS).ds.rd (by omega)).mono ?_
      rintro e w3 ⟨big, rfl, k3, g3⟩
      have S3 := hide ((unhide hS).step hB hg k3 g3)
      clear hS k3 g3
      cases big
      · have hgb := own_ge (unhide S3).ow
        have hn : n ≤ 4097 := by omega
        subst hLn
        go_wp2
        go_ret
        exact ⟨gb, c, L, rfl, hn, hgb, (unhide S3).ow, (unhide S3).ds.cur, (unhide S3).ds.gr⟩
      · go_wp2_with fail
        refine (below_any B g a len cap 2 _ hB hl (unhide S3).ds.cur (unhide S3).ds.rd (by omega)).mono ?_
        rintro e w4 ⟨j, rfl, j0, j1, k4, g4⟩
        have S4 := hide ((unhide S3).step hB hg k4 g4)
        obtain ⟨q, rfl⟩ : ∃ q : Nat, j = q := ⟨j.toNat, by omega⟩
        obtain ⟨N, hN⟩ : ∃ N, 4096 + q = N := ⟨_, rfl⟩
        have hw : IntKind.i64.wrap (4096 + (q : Int)) = (N : Int) := by rw [IntKind.wrap_i64]; omega
        have hN2 : N ≤ 4097 := by omega
        have s4 := (unhide S4).ds.gr.size
        clear S3 k4 g4 hN
        go_wp2_with (refine wpList_make_full _ rfl _ _ 24 rfl w.heap.size 25 i0 (.float .f64 0) 1 Try.underlying24 hi hz0 hz1 .i64 .i64 _ _ N rfl rfl rfl rfl ?b2 ?b3 s4 ?_)
        case b2 => rw [hz2]; omega
        case b3 => unfold maxLen; omega
        intro w5 hown hgr
        have b5 : Below w.heap.size w4 w5 := (Below.refl _ _).grown hgr s4 (fun k hk => by cases hk)
        have S5 := hide (show LS w B g a len cap w5 w4.heap.size N N (List.replicate N 0) from ⟨(unhide S4).ds.low hB hg b5, by
          rw [toList_madeCells_one] at hown; simpa [fl] using hown⟩)
        clear S4 b5 hown hgr
        go_wp2
        go_ret
        exact ⟨w4.heap.size, N, List.replicate N 0, by simp, by simp; omega, s4, by simpa using (unhide S5).ow, (unhide S5).ds.cur, (unhide S5).ds.gr⟩
end Go.Proofs.Ytdemcjppokhonaa
