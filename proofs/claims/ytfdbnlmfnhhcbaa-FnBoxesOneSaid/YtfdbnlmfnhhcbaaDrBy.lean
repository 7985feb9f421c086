/-
  Contract of the model's draw of bytes: those of drawn boxes, some of them damaged; they lie in memory of their own, and nothing that was there is written but for the cursor.
-/
import Derived.Test.YtfdbnlmfnhhcbaaDrawD
import Derived.Test.YtfdbnlmfnhhcbaaSShW
import Derived.Deep.RegionLaw
namespace Go.Proofs.Ytfdbnlmfnhhcbaa
open Go.RowKit
set_option linter.unusedVariables false
set_option linter.unusedSimpArgs false

/-- where the bytes of the boxes lie -/
def At2 (L : List (Bx × (Option Addr × Nat))) (j : Nat) : Option Addr × Nat := match L[j]? with | some p => p.2 | none => (none, 0)
theorem own_out {w : World} {B : Nat} {v : Value} {L : List (Bx × (Option Addr × Nat))} {l : List Bx} (h : OwnL w B v L) (e : L.map (·.1) = l) : ∃ a cap, v = .slice a l.length cap ∧ l.length ≤ cap ∧ cap ≤ 9223372036854775807 ∧ Bxs false 0 w.heap.size w a (At2 L) l := by
  obtain ⟨a, cap, hv, _, h1, h2, hb, _⟩ := h.bxs
  have hl : L.length = l.length := by rw [← e]; simp
  rw [e] at hb
  rw [hl] at hv h1
  unfold maxLen at h2
  exact ⟨a, cap, hv, h1, by omega, hb.read.mono (Nat.zero_le _) (Nat.le_refl _)⟩
theorem good_at {L : List (Bx × (Option Addr × Nat))} (h : Good L) : ∀ i, i < (L.map (·.1)).length → (At2 L i).1 = none → (At2 L i).2 = 0 := by
  intro i hi
  unfold At2
  rw [List.length_map] at hi
  rw [List.getElem?_eq_getElem hi]
  exact (h _ (List.getElem_mem hi)).2.2
theorem good_bd {L : List (Bx × (Option Addr × Nat))} (h : Good L) : ∀ x ∈ L.map (·.1), x.k.size ≤ 5 ∧ x.z.length ≤ 20001 := by
  intro x hx
  obtain ⟨p, hp, rfl⟩ := List.mem_map.1 hx
  exact ⟨(h p hp).1, (h p hp).2.1⟩

/-- the state: the cursor, and the bytes in a row of their own -/
structure BY (w : World) (B g : Nat) (a : Option Addr) (len cap : Nat) (wr : World) (G n c : Nat) (zs : List Int) : Prop where
  cur : CurAt wr g a len cap
  rd : RdB wr B a len
  gr : w.grownBy wr (some g)
  own : wr.ownsRow w.heap.size 5 1 (.slice (some ⟨G, 0, none⟩) n c) n (zs.map u8)
  ln : zs.length = n
  bd : ∀ z ∈ zs, 0 ≤ z ∧ z ≤ 255
section
variable {w wr w1 : World} {B g : Nat} {a : Option Addr} {len cap G n c : Nat} {zs : List Int}
theorem BY.lt (h : BY w B g a len cap wr G n c zs) : w.heap.size ≤ G ∧ G < wr.heap.size := h.own.lt G rfl
theorem BY.call (h : BY w B g a len cap wr G n c zs) (hB : B ≤ g) (hg : g < w.heap.size) (hc : CurAt w1 g a len cap) (hgr : wr.grownBy w1 (some g)) : BY w B g a len cap w1 G n c zs :=
  ⟨hc, h.rd.grown hgr hB, grown_trans h.gr hgr, own_kept h.own (fun j hj => by
    have e : G = j := Option.some.inj hj
    have := h.lt
    exact hgr.block j (by omega) (fun e2 => by have := Option.some.inj e2; omega)), h.ln, h.bd⟩
theorem BY.later (h : BY w B g a len cap wr G n c zs) (hB : B ≤ g) (hg : g < w.heap.size) (hb : Below wr.heap.size wr w1) : BY w B g a len cap w1 G n c zs :=
  h.call hB hg (h.cur.below hb) (grown_below hb)
theorem BY.put (h : BY w B g a len cap wr G n c zs) (hB : B ≤ g) (hBw : B ≤ w.heap.size) (hg : g < w.heap.size) (hgr : wr.grownBy w1 (some G)) {G' n' c' : Nat} {zs' : List Int} (ho : w1.ownsRow w.heap.size 5 1 (.slice (some ⟨G', 0, none⟩) n' c') n' (zs'.map u8)) (hl : zs'.length = n') (hb : ∀ z ∈ zs', 0 ≤ z ∧ z ≤ 255) : BY w B g a len cap w1 G' n' c' zs' := by
  have hG := h.lt
  refine ⟨h.cur.other (hgr.block g (by have := h.cur.lt; omega) (fun e => by have := Option.some.inj e; omega)), ?_, ⟨hgr.os.trans h.gr.os, hgr.tape.trans h.gr.tape, hgr.output.trans h.gr.output, Nat.le_trans h.gr.size hgr.size, fun k hk hn => (hgr.block k (Nat.lt_of_lt_of_le hk h.gr.size) (fun e => by have := Option.some.inj e; omega)).trans (h.gr.block k hk hn)⟩, ho, hl, hb⟩
  intro j hj
  obtain ⟨b, o, z, e, hb, hc, h0, h1⟩ := h.rd j hj
  exact ⟨b, o, z, e, hb, hgr.cell hc (by intro e2; have := Option.some.inj e2; simp at this; omega), h0, h1⟩
theorem BY.set (h : BY w B g a len cap wr G n c zs) (hB : B ≤ g) (hBw : B ≤ w.heap.size) (hg : g < w.heap.size) (k : Nat) (v : Int) (v0 : 0 ≤ v) (v1 : v ≤ 255) : ∃ zs', BY w B g a len cap (wr.setCell ⟨G, k, none⟩ (.int .u8 v)) G n c zs' := by
  have h1 := (h.own.stored k (u8 v)).1
  have e : (zs.map u8).set k (u8 v) = (zs.set k v).map u8 := by rw [List.map_set]
  rw [e] at h1
  refine ⟨zs.set k v, h.put hB hBw hg (grown_set (World.grownBy.refl _ _)) h1 (by rw [List.length_set]; exact h.ln) ?_⟩
  intro z hz
  rcases List.mem_or_eq_of_mem_set hz with hz | rfl
  · exact h.bd z hz
  · exact ⟨v0, v1⟩
theorem BY.take (h : BY w B g a len cap wr G n c zs) (k : Nat) (hk : k ≤ n) : BY w B g a len cap wr G k c (zs.take k) := by
  refine ⟨h.cur, h.rd, h.gr, ?_, by rw [List.length_take, h.ln]; omega, fun z hz => h.bd z (List.mem_of_mem_take hz)⟩
  have hl := h.ln
  rcases h.own.2 with ⟨e, _⟩ | ⟨g', cap', cur, e, hg', hh, q1, q2, q3, q4⟩
  · cases e
  · injection e with e1 e2 e3
    injection e1 with e1
    injection e1 with e1
    subst e1 e3
    refine ⟨by rw [List.length_map, List.length_take, hl]; omega, .inr ⟨G, c, cur, rfl, hg', hh, by omega, q2, q3, ?_⟩⟩
    rw [List.map_take, ← q4, List.take_take]
    congr 1
    omega
theorem BY.cell (h : BY w B g a len cap wr G n c zs) {k : Nat} (hk : k < n) : ∃ z, wr.cell? ⟨G, k, none⟩ = some (.int .u8 z) ∧ 0 ≤ z ∧ z ≤ 255 ∧ wr.frozen? ⟨G, k, none⟩ = false := by
  have hr := row_of_own h.own h.bd
  have hl := h.ln
  obtain ⟨b, o, e, _, _, hc, z0, z1, hf⟩ := hr k zs[k] (List.getElem?_eq_getElem (by omega))
  injection e with e
  injection e with e1 e2
  subst e1 e2
  rw [Nat.zero_add] at hc hf
  exact ⟨_, hc, z0, z1, hf rfl⟩
end

set_option maxRecDepth 10000 in
set_option maxHeartbeats 6400000 in
theorem dby_any (B g : Nat) (a : Option Addr) (len cap : Nat) (w : World) (hB : B ≤ g) (hl : len ≤ 4096) (hc : CurAt w g a len cap) (hr : RdB w B a len) :
    Calls Try.prog 14 #[.pointer (some ⟨g, 0, none⟩)] w fun e w' => ∃ G n c zs, e = .returned (.slice (some ⟨G, 0, none⟩) n c) ∧ n ≤ 30000000 ∧ BY w B g a len cap w' G n c zs := by
  have hg := hc.lt
  have hBw : B ≤ w.heap.size := by omega
  have hl' : len ≤ 9223372036854775807 := by omega
  have K0 := hide hc
  have R0 := hide hr
  clear hc hr
  go_enter Try.func14, Try.ntmps14
  go_wp2_with fail
  refine (drB2 B g a len cap _ hB hl (unhide K0) (unhide R0)).mono ?_
  rintro e w1 ⟨v, L, rfl, own1, hL, ⟨hgood, _⟩, k1, g1⟩
  obtain ⟨l, hle⟩ : ∃ l, L.map (·.1) = l := ⟨_, rfl⟩
  obtain ⟨ba, bc, rfl, hbc1, hbc2, hbx⟩ := own_out own1 hle
  have hll : l.length ≤ 1000 := by rw [← hle, List.length_map]; exact hL
  have hA := good_at hgood
  have hbd := good_bd hgood
  rw [hle] at hA hbd
  have R1 := hide ((unhide R0).grown g1 hB)
  have K1 := hide k1
  have G1 := hide g1
  have hbx' := hide hbx
  have hA' := hide hA
  have hbd' := hide hbd
  clear own1 hgood k1 g1 K0 R0 hle hbx hA hbd
  go_wp2_with fail
  refine (sh_allW 1000 ba bc (At2 L) l _ hll (unhide hbd') hbc1 hbc2 hll (unhide hA') (unhide hbx')).mono ?_
  rintro e w2 ⟨G, c, n, zs, rfl, hz1, hn, hz2, own2, b2⟩
  have S2 := hide (show BY w B g a len cap w2 G n c zs from ⟨(unhide K1).below b2, (unhide R1).grown (grown_below b2) hB, grown_trans (unhide G1) (grown_below b2), own_mono own2 (unhide G1).size, hz1, hz2⟩)
  have hn2 : n ≤ 20010000 := by omega
  clear own2 b2 hz1 hz2 K1 R1 G1 hbx' hA' hbd' hn
  go_wp2_with fail
  refine (below_any B g a len cap 3 _ hB hl' (unhide S2).cur (unhide S2).rd (by omega)).mono ?_
  rintro e w3 ⟨x1, rfl, x10, x11, k1, g1⟩
  have S3 := hide ((unhide S2).call hB hg k1 g1)
  obtain ⟨n0, rfl⟩ : ∃ m : Nat, x1 = m := ⟨x1.toNat, by omega⟩
  clear k1 g1 S2
  go_wp2
  go_loopw [3, 4] (fun s t wr => ∃ (k G n c : Nat) (zs : List Int), k ≤ 3 ∧ n + k ≤ 20010010 ∧ t = .int .i64 k ∧ s = .slice (some ⟨G, 0, none⟩) n c ∧ Hid (BY w B g a len cap wr G n c zs)) (fun _ t _ => (intOf t).toNat)
  case atStart => exact ⟨n0, G, n, c, zs, by omega, by omega, rfl, rfl, S3⟩
  case round =>
    clear S3
    obtain ⟨k, G, n, c, zs, hk3, hnk, rfl, rfl, hS⟩ := hrel
    by_cases hgo : 0 < k ∧ 0 < n
    · obtain ⟨hk0, hn0⟩ := hgo
      have hk1 : decide ((0 : Int) < k) = true := by rw [decide_eq_true_iff]; omega
      have hn1 : decide ((0 : Int) < n) = true := by rw [decide_eq_true_iff]; omega
      go_wp2_with fail
      refine (below_any B g a len cap (n : Int) _ hB hl' (unhide hS).cur (unhide hS).rd (by omega)).mono ?_
      rintro e w4 ⟨dk, rfl, d0, d1, k1, g1⟩
      obtain ⟨q, rfl⟩ : ∃ q : Nat, dk = q := ⟨dk.toNat, by omega⟩
      have S4 := hide ((unhide hS).call hB hg k1 g1)
      have hq : q < n := by omega
      clear k1 g1 hS
      go_wp2_with fail
      refine (below_any B g a len cap 4 _ hB hl' (unhide S4).cur (unhide S4).rd (by omega)).mono ?_
      rintro e w5 ⟨p, rfl, p0, p1, k1, g1⟩
      have S5 := hide ((unhide S4).call hB hg k1 g1)
      clear k1 g1 S4
      have hp : p = 0 ∨ p = 1 ∨ p = 2 ∨ p = 3 := by omega
      rcases hp with rfl | rfl | rfl | rfl
      · go_wp2_with fail
        refine (byte_any B g a len cap _ hB hl' (unhide S5).cur (unhide S5).rd).mono ?_
        rintro e w6 ⟨y, rfl, y0, y1, k1, g1⟩
        have S6 := hide ((unhide S5).call hB hg k1 g1)
        clear k1 g1 S5
        obtain ⟨z, z1, z2, z3, zf⟩ := (unhide S6).cell hq
        have hSF := hide ((unhide S6).set hB hBw hg q y y0 y1)
        clear S6
        obtain ⟨zs', SF⟩ := unhide hSF
        have SF' := hide SF
        clear hSF SF
        go_wp2
        go_roundw
        case rel => exact ⟨k - 1, G, n, c, zs', by omega, by omega, by go_num, rfl, SF'⟩
        case measure => simp [intOf]; omega
      · obtain ⟨z, z1, z2, z3, zf⟩ := (unhide S5).cell hq
        have S5d := hide ((unhide S5).later hB hg ((Below.refl _ _).drew))
        have hGl := (unhide S5).lt.2
        go_wp2_with fail
        go_region_law ((first
          | (go_simp
             go_at_call 24
             refine (below_any B g a len cap 3 w5.drew hB hl' (unhide S5d).cur (unhide S5d).rd (by omega)).mono ?_
             rintro e w6 ⟨d, rfl, dd0, dd1, kk, gg⟩
             have S6 := hide ((unhide S5d).call hB hg kk gg)
             have m0 : w6.cell? ⟨G, q, none⟩ = some (.int .u8 z) := gg.cell z1 (by intro e2; have := Option.some.inj e2; have := (unhide S5).lt; simp at *; omega)
             have mf : w6.frozen? ⟨G, q, none⟩ = false := by obtain ⟨_, _, _, _, h⟩ := (unhide S6).cell hq; exact h
             have ml := (unhide S6).lt.2
             clear kk gg)))
        all_goals (
          have hSF := hide (fun v v0 v1 => (unhide S6).set hB hBw hg q v v0 v1)
          clear S6 S5 S5d
          go_wp2
          go_roundw
          case rel =>
            obtain ⟨zs', SF⟩ := unhide hSF (((z + d) % 256 - 1) % 256) (by omega) (by omega)
            exact ⟨k - 1, G, n, c, zs', by omega, by omega, by go_num, rfl, hide SF⟩
          case measure => simp [intOf]; omega)
      · have S6 := hide ((unhide S5).take q (by omega))
        have hqc : (q : Int) ≤ c := by
          rcases (unhide S5).own.2 with ⟨e, _⟩ | ⟨g', cap', cur, e, hg', hh, q1, q2, q3, q4⟩
          · cases e
          · injection e with e1 e2 e3
            omega
        clear S5
        go_wp2
        go_roundw
        case rel => exact ⟨k - 1, G, q, c, _, by omega, by omega, by go_num, rfl, S6⟩
        case measure => simp [intOf]; omega
      · go_wp2_with fail
        refine (byte_any B g a len cap _ hB hl' (unhide S5).cur (unhide S5).rd).mono ?_
        rintro e w6 ⟨y, rfl, y0, y1, k1, g1⟩
        have S6 := hide ((unhide S5).call hB hg k1 g1)
        clear k1 g1 S5
        have kX := (Below.refl w6.heap.size w6).alloc (Nat.le_refl _) (.cells #[.int .u8 y] 5)
        have S7 := hide ((unhide S6).later hB hg kX)
        have hsz : w.heap.size ≤ (w6.alloc (.cells #[.int .u8 y] 5)).heap.size := (unhide S7).gr.size
        have hrow : Hid (Row false 0 (w6.heap.size + 1) (w6.alloc (.cells #[.int .u8 y] 5)) (some ⟨w6.heap.size, 0, none⟩) [y]) := hide (by
          intro j z hz
          cases j with
          | zero =>
            simp at hz
            subst hz
            exact ⟨w6.heap.size, 0, rfl, by omega, by omega, by simp [go_sem], y0, y1, fun h => by cases h⟩
          | succ j => simp at hz)
        clear kX S6
        go_wp2_with (at_builtin; refine wpList_bytesL _ rfl _ _ rfl w.heap.size n (w6.heap.size + 1) (.slice (some ⟨G, 0, none⟩) n c) (zs.map u8) rfl (unhide S7).own ⟨w6.heap.size, 0, none⟩ 1 1 [y] rfl (by decide) rfl (unhide hrow) (by omega) hsz ?_)
        intro g8 c8 w8 own8 hg8 hat8
        have S8 := hide ((unhide S7).put hB hBw hg (w1 := w8) (G' := g8) (n' := n + 1) (c' := c8) (zs' := zs ++ [y]) hg8 (by rw [List.map_append]; exact own8) (by rw [List.length_append, (unhide S7).ln]; rfl) (fun z hz => by
          rcases List.mem_append.1 hz with hz | hz
          · exact (unhide S7).bd z hz
          · simp at hz; subst hz; exact ⟨y0, y1⟩))
        clear own8 hg8 hat8 S7 hrow
        go_wp2
        go_roundw
        case rel => exact ⟨k - 1, g8, n + 1, c8, _, by omega, by omega, by go_num, rfl, S8⟩
        case measure => simp [intOf]; omega
    · have hend : k = 0 ∨ (0 < k ∧ n = 0) := by omega
      clear hgo
      rcases hend with rfl | ⟨hk1, rfl⟩
      case' inr =>
        have hk2 : decide (0 < k) = true := decide_eq_true hk1
        have hk3 : decide ((0 : Int) < k) = true := by rw [decide_eq_true_iff]; omega
      all_goals (
        go_wp2_with fail
        refine (once_any B g a len cap 60 _ hB hl' (unhide hS).cur (unhide hS).rd (by omega)).mono ?_
        rintro e w4 ⟨q, rfl, k1, g1⟩
        have S4 := hide ((unhide hS).call hB hg k1 g1)
        clear k1 g1 hS
        cases q with
        | false =>
          go_wp2
          go_ret
          exact ⟨G, _, c, zs, rfl, by omega, unhide S4⟩
        | true =>
          go_wp2_with fail
          refine (below_any B g a len cap 2 _ hB hl' (unhide S4).cur (unhide S4).rd (by omega)).mono ?_
          rintro e w5 ⟨y, rfl, y0, y1, k1, g1⟩
          have S5 := hide ((unhide S4).call hB hg k1 g1)
          obtain ⟨j, rfl⟩ : ∃ j : Nat, y = j := ⟨y.toNat, by omega⟩
          clear k1 g1 S4
          have z8 : w.heap.size ≤ w5.heap.size := (unhide S5).gr.size
          obtain ⟨i0, hi, hz0, hz1, hz2⟩ := info_parts info5
          go_wp2_with (refine wpList_make_full _ rfl _ _ 22 rfl w.heap.size 5 i0 (.int .u8 0) 1 Try.underlying22 hi hz0 hz1 .i64 .i64 _ _ (40000 + j) rfl rfl rfl rfl ?b2 ?b3 z8 ?_)
          case b2 => rw [hz2]; omega
          case b3 => unfold maxLen; omega
          intro w9 hown9 hgr9
          have hb9 : Below w5.heap.size w5 w9 := (Below.refl _ _).grown hgr9 (Nat.le_refl _) (fun k hk => by cases hk)
          have hown9' : w9.ownsRow w.heap.size 5 1 (.slice (some ⟨w5.heap.size, 0, none⟩) (40000 + j) (40000 + j)) (40000 + j) ((List.replicate (40000 + j) (0 : Int)).map u8) := by
            rw [toList_madeCells_one] at hown9; simpa [u8] using hown9
          have S9 := hide (show BY w B g a len cap w9 w5.heap.size (40000 + j) (40000 + j) (List.replicate (40000 + j) 0) from ⟨(unhide S5).cur.below hb9, (unhide S5).rd.grown (grown_below hb9) hB, grown_trans (unhide S5).gr (grown_below hb9), hown9', by simp, fun z hz => by rw [List.eq_of_mem_replicate hz]; decide⟩)
          clear hown9 hown9' hb9 hgr9 S5
          go_wp2
          go_ret
          exact ⟨w5.heap.size, 40000 + j, 40000 + j, _, by simp, by omega, unhide S9⟩)

set_option maxHeartbeats 800000 in
theorem drd_any (a : Option Addr) (len cap : Nat) (w : World) (hl : len ≤ 4096) (hr : RdB w w.heap.size a len) :
    Calls Try.prog 5 #[.slice a len cap] w fun e w' => ∃ (G n c : Nat) (zs : List Int), e = .returned (.slice (some ⟨G, 0, none⟩) n c) ∧ n ≤ 30000000 ∧ zs.length = n ∧ (∀ z ∈ zs, 0 ≤ z ∧ z ≤ 255) ∧ w'.ownsRow w.heap.size 5 1 (.slice (some ⟨G, 0, none⟩) n c) n (zs.map u8) ∧ Below w.heap.size w w' := by
  have hr' := hide hr
  clear hr
  go_enter Try.func5, Try.ntmps5
  go_wp2_with fail
  refine (new_any a len cap _ (by omega) (by omega) (unhide hr')).mono ?_
  rintro e w1 ⟨g, rfl, hg, k1, b1⟩
  have z1 := b1.size
  have r1 : RdB w1 w.heap.size a len := fun j hj => by
    obtain ⟨b, o, z, e, hb, hc, h0, h1⟩ := unhide hr' j hj
    exact ⟨b, o, z, e, hb, by rw [(bcell b1).1 _ _ hb]; exact hc, h0, h1⟩
  have R1 := hide r1
  have K1 := hide k1
  have B1 := hide b1
  clear r1 k1 b1
  go_wp2_with fail
  refine (dby_any w.heap.size g a len cap _ hg hl (unhide K1) (unhide R1)).mono ?_
  rintro e w2 ⟨G, n, c, zs, rfl, hn, S⟩
  have fin := hide (show zs.length = n ∧ (∀ z ∈ zs, 0 ≤ z ∧ z ≤ 255) ∧ w2.ownsRow w.heap.size 5 1 (.slice (some ⟨G, 0, none⟩) n c) n (zs.map u8) ∧ Below w.heap.size w w2 from ⟨S.ln, S.bd, own_mono S.own z1, (unhide B1).grown S.gr z1 (fun k hk => by have := Option.some.inj hk; omega)⟩)
  clear S K1 R1
  go_wp2
  go_ret
  exact ⟨G, n, c, zs, rfl, hn, unhide fin⟩

end Go.Proofs.Ytfdbnlmfnhhcbaa
