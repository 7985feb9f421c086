/-
  Contract of the model's draw of boxes: it gives some list of its own, within bounds, and writes into the cursor alone.
-/
import Derived.Test.YtfdbnlmfnhhcbaaDrawE
import Derived.Deep.CutBlock
import Derived.Deep.CutRange
import Derived.Deep.RegionLaw
import Derived.Outline
namespace Go.Proofs.Ytfdbnlmfnhhcbaa
open Go.RowKit
set_option linter.unusedVariables false
set_option linter.unusedSimpArgs false

theorem bst_start {w : World} {Bc g len cap : Nat} {a : Option Addr} (hg : Bc ≤ g) (hc : CurAt w g a len cap) (hr : RdB w Bc a len) : BSt w Bc g a len cap (.slice (some ⟨w.heap.size, 0, none⟩) 0 0) [] (w.alloc (.cells #[] 42)) := by
  have hb : Below w.heap.size w (w.alloc (.cells #[] 42)) := (Below.refl _ _).alloc (Nat.le_refl _) _
  have hgg : w.grownBy (w.alloc (.cells #[] 42)) (some g) := grown_below hb
  exact ⟨hc.below hb, hr.grown hgg hg, hgg, OwnL.nil (World.ownsRow_lit (base := w.heap.size) (e := 42) (size := 3) w #[] 0 (Nat.le_refl _) (by unfold maxLen; omega) rfl), fun p hp => by simp at hp⟩

theorem nst_start {w w2 : World} {Bc g len cap : Nat} {a : Option Addr} {v : Value} {L : List (Bx × (Option Addr × Nat))} {s : ByteArray} (hg : Bc ≤ g) (hgl : g < w.heap.size) (h : BSt w Bc g a len cap v L w2) : NSt w Bc g a len cap v L w2.heap.size s 0 [] none 0 (w2.alloc (.cells #[.string s, .int .i64 0, .slice none 0 0] 42)) :=
  ⟨h.alloc hg hgl _, by simp [go_sem], by simp [go_sem], by simp [go_sem], by simp [go_sem], by simp [go_sem], ⟨rfl, Or.inl ⟨rfl, rfl⟩⟩⟩
theorem last_box {w wx : World} {Bc g len cap G q cv : Nat} {a : Option Addr} {L : List (Bx × (Option Addr × Nat))} (h : BSt w Bc g a len cap (.slice (some ⟨G, 0, none⟩) (q + 1) cv) L wx) (hL : L.length = q + 1) (hgd : GD L) :
    ∃ (k : ByteArray) (d : Int) (ad : Option Addr) (n c : Nat), wx.cell? ⟨G, q * 3, none⟩ = some (.string k) ∧ wx.cell? ⟨G, q * 3 + 1, none⟩ = some (.int .i64 d) ∧ wx.cell? ⟨G, q * 3 + 2, none⟩ = some (.slice ad n c) ∧ k.size = 4 ∧ 0 ≤ d ∧ d ≤ 9 ∧ G < wx.heap.size := by
  obtain ⟨p, hp⟩ : ∃ p, L[q]? = some p := ⟨L[q], List.getElem?_eq_getElem (by omega)⟩
  obtain ⟨a', cap', hv, _, _, _, hbx, _⟩ := h.own.bxs
  injection hv with e1 e2 e3
  subst e1
  obtain ⟨b, o, e, h1, h2, c0, c1, c2, _⟩ := hbx q p.1 (by rw [List.getElem?_map, hp]; rfl)
  injection e with e
  injection e with e4 e5 _
  subst e4 e5
  rw [Nat.zero_add] at c0 c1 c2
  obtain ⟨g1, g2, g3, g4⟩ := hgd p (List.mem_of_getElem? hp)
  exact ⟨_, _, _, _, _, c0, c1, c2, g1, g2, g3, h2⟩
theorem u8_id {x : Int} (h0 : 0 ≤ x) (h1 : x ≤ 255) : IntKind.u8.wrap x = x := by
  have : IntKind.u8.wrap x = x % 256 := by simp [IntKind.wrap, IntKind.bits, IntKind.signed]
  rw [this]; omega
theorem row_one {w : World} {x : Int} (h0 : 0 ≤ x) (h1 : x ≤ 255) : Row false 0 (w.heap.size + 1) (w.alloc (.cells #[.int .u8 x] 5)) (some ⟨w.heap.size, 0, none⟩) [x] := by
  intro j z hz
  cases j with
  | zero =>
    simp at hz
    subst hz
    exact ⟨w.heap.size, 0, rfl, Nat.zero_le _, Nat.lt_succ_self _, by simp [go_sem], h0, h1, fun h => by cases h⟩
  | succ j => simp at hz
theorem sd_grown {w : World} {Bc g len cap X cz : Nat} {a ad : Option Addr} {v : Value} {L : List (Bx × (Option Addr × Nat))} {s : ByteArray} {d : Int} {zs : List Int} {wx wy : World} (h : NSt w Bc g a len cap v L X s d zs ad cz wx) (gg : wx.grownBy wy (Value.ownBlock (.slice ad zs.length cz))) : wy.cell? ⟨X, 2, none⟩ = some (.slice ad zs.length cz) ∧ wy.frozen? ⟨X, 2, none⟩ = false := by
  have hs : wy.heap[X]? = wx.heap[X]? := gg.block X h.lt (fun e => by have := (h.row.lt X e.symm).1; omega)
  exact ⟨(World.cell?_of_block (a := ⟨X, 2, none⟩) hs).trans h.c2, (World.frozen?_of_block (a := ⟨X, 2, none⟩) hs).trans h.f2⟩
theorem box_at {w wx : World} {Bc g len cap G nL q cv : Nat} {a : Option Addr} {L : List (Bx × (Option Addr × Nat))} {p : Bx × (Option Addr × Nat)} (h : BSt w Bc g a len cap (.slice (some ⟨G, 0, none⟩) nL cv) L wx) (hL : L.length = nL) (hgd : GD L) (hp : L[q]? = some p) :
    wx.cell? ⟨G, q * 3, none⟩ = some (.string p.1.k) ∧ wx.cell? ⟨G, q * 3 + 1, none⟩ = some (.int .i64 p.1.d) ∧ wx.cell? ⟨G, q * 3 + 2, none⟩ = some (.slice p.2.1 p.1.z.length p.2.2) ∧ wx.frozen? ⟨G, q * 3, none⟩ = false ∧ wx.frozen? ⟨G, q * 3 + 1, none⟩ = false ∧ wx.frozen? ⟨G, q * 3 + 2, none⟩ = false ∧ G < wx.heap.size ∧ p.1.k.size = 4 ∧ 0 ≤ p.1.d ∧ p.1.d ≤ 9 ∧ p.1.z.length ≤ 6 := by
  obtain ⟨g1, g2, g3, g4⟩ := hgd p (List.mem_of_getElem? hp)
  have ho := h.own.1
  rw [hL] at ho
  have hql : q < L.length := (List.getElem?_eq_some_iff.1 hp).1
  obtain ⟨f0, f1, f2⟩ := flatL_get L q p hp
  exact ⟨(ho.cellAt (q * 3) (by omega)).trans f0, (ho.cellAt (q * 3 + 1) (by omega)).trans f1, (ho.cellAt (q * 3 + 2) (by omega)).trans f2, ho.frozenAt _, ho.frozenAt _, ho.frozenAt _, (ho.lt G rfl).2, g1, g2, g3, g4⟩
theorem wpList_bytesL {ops : Array Oper} {rest : List Oper} {o : Oper} {a : Act} {Q : Exit → Act → World → Prop} (w : World) (hgd : o.guard = none) (s x : Operand) (ho : o.op = .call { callee := .builtin .append, args := #[s, x], argTypes := #[22, 22] })
    (B n Hh : Nat) (v : Value) (xs : List Value) (hs : a.eval s = v) (hown : w.ownsRow B 5 1 v n xs) (ad : Addr) (m c : Nat) (zs : List Int) (hm : zs.length = m) (hm0 : 0 < m) (hx : a.eval x = .slice (some ad) m c) (hr : Row false 0 Hh w (some ad) zs) (hlen : n + m ≤ 1000000000) (hB : B ≤ w.heap.size)
    (h : ∀ g cap w', w'.ownsRow B 5 1 (.slice (some ⟨g, 0, none⟩) (n + m) cap) (n + m) (xs ++ zs.map u8) → w.grownBy w' v.ownBlock → (v.ownBlock = some g ∨ g = w.heap.size) → wpList Try.prog ops Q rest (a.put o.dst (.slice (some ⟨g, 0, none⟩) (n + m) cap)) w') : wpList Try.prog ops Q (o :: rest) a w := by
  obtain ⟨i0, hi, hz0, hz1, hz2⟩ := info_parts info5
  exact wpList_plain hgd fun _ hK => wp_append_lies w s x 22 ho B 5 i0 (.int .u8 0) 1 1 Try.underlying22 hi hz0 hz1 hz2 rfl (by decide) v n xs hs hown ad m c (zs.map u8) hx (by simp; omega) (row_news hr) (u8_one zs) hm0 (by unfold maxLen; omega) (by omega) hB w.heap.size rfl fun g cap w' h2 h3 h4 _ => hK _ _ (h g cap w' h2 h3 h4)
theorem rowG {w wx : World} {Bc g len cap G nL q cv : Nat} {a : Option Addr} {L : List (Bx × (Option Addr × Nat))} {p : Bx × (Option Addr × Nat)} (h : BSt w Bc g a len cap (.slice (some ⟨G, 0, none⟩) nL cv) L wx) (hp : L[q]? = some p) : some G ≠ Value.ownBlock (.slice p.2.1 p.1.z.length p.2.2) := by
  intro e
  obtain ⟨y, hy, he⟩ := rowOf_blk (p := p) (j := G) e.symm
  exact ((h.own.2.1 p (List.mem_of_getElem? hp)).2.2.2.2.2.2 y hy).2 (by rw [he]; rfl)
theorem tabA {j : Nat} {x : Int} (hj : j < 4) (h0 : -1000 ≤ x) (h1 : x ≤ 1000) : ∃ d : Int, (#[.int .i64 (-1), .int .i64 0, .int .i64 9, .int .i64 x] : Array Value)[j]? = some (.int .i64 d) ∧ -1000 ≤ d ∧ d ≤ 1000 := by
  match j, hj with
  | 0, _ => exact ⟨-1, rfl, by decide, by decide⟩
  | 1, _ => exact ⟨0, rfl, by decide, by decide⟩
  | 2, _ => exact ⟨9, rfl, by decide, by decide⟩
  | 3, _ => exact ⟨x, rfl, h0, h1⟩
theorem tabB {w : World} {A j : Nat} {x : Int} {t : TypeId} (hj : j < 4) (h0 : -1000 ≤ x) (h1 : x ≤ 1000) (hb : w.heap[A]? = some (.cells #[.int .i64 (-1), .int .i64 0, .int .i64 9, .int .i64 x] t)) : ∃ d : Int, w.cell? ⟨A, j, none⟩ = some (.int .i64 d) ∧ -1000 ≤ d ∧ d ≤ 1000 := by
  rw [cell_of_row _ _ _ _ _ _ hb]
  exact tabA hj h0 h1
theorem tabI {w : World} {j : Nat} {x : Int} (hj : j < 4) (h0 : -1000 ≤ x) (h1 : x ≤ 1000) : ∃ d : Int, (w.alloc (.cells #[.int .i64 (-1), .int .i64 0, .int .i64 9, .int .i64 x] 2)).cell? ⟨w.heap.size, j, none⟩ = some (.int .i64 d) ∧ -1000 ≤ d ∧ d ≤ 1000 := tabB hj h0 h1 (heap_alloc_new w _)
theorem cell_grown {w w1 : World} {g b o : Nat} {v : Value} (gg : w.grownBy w1 (some g)) (h : w.cell? ⟨b, o, none⟩ = some v) (hne : b ≠ g) : w1.cell? ⟨b, o, none⟩ = some v :=
  gg.cell h (by intro he; have := Option.some.inj he; exact hne (by simpa using this))

set_option maxRecDepth 100000 in
set_option maxHeartbeats 3200000 in
theorem drB2 : DrB2 := by
  intro Bc g a len cap w hg hl hc hr
  have hgl := hc.lt
  have S0 := hide (bst_start hg hc hr)
  clear hc hr
  go_enter Try.func23, Try.ntmps23
  go_wp2_with fail
  refine (below_any Bc g a len cap 12 _ hg (by omega) (unhide S0).cur (unhide S0).rd (by omega)).mono ?_
  rintro e w1 ⟨x1, rfl, x10, x11, k1, g1⟩
  obtain ⟨n1, rfl⟩ := Int.eq_ofNat_of_zero_le x10
  have S1 := hide ((unhide S0).call hg hgl k1 g1)
  clear k1 g1 S0
  go_wp2
  go_loopw [3, 4] (fun s t wr => ∃ (n nL G cv : Nat) (L : List (Bx × (Option Addr × Nat))), t = .int .i64 n ∧ s = .slice (some ⟨G, 0, none⟩) nL cv ∧ nL + n ≤ 12 ∧ Hid (L.length = nL) ∧ Hid (GD L) ∧ Hid (BSt w Bc g a len cap (.slice (some ⟨G, 0, none⟩) nL cv) L wr)) (fun _ t _ => (intOf t).toNat)
  case atStart => exact ⟨n1, 0, w.heap.size, 0, [], rfl, rfl, by omega, hide rfl, hide (fun p hp => by simp at hp), S1⟩
  case round =>
    clear S1
    obtain ⟨n, nL, G, cv, L, rfl, rfl, hn, hnL, hgd, hS⟩ := hrel
    obtain ⟨wo, rfl⟩ : ∃ x, x = wr := ⟨wr, rfl⟩
    by_cases hpos : 0 < n
    · obtain ⟨m, rfl⟩ : ∃ m, n = m + 1 := ⟨n - 1, by omega⟩
      have zo := (unhide hS).gr.size
      go_wp2_with fail
      refine (below_any Bc g a len cap 7 _ hg (by omega) ((unhide hS).alloc hg hgl _).cur ((unhide hS).alloc hg hgl _).rd (by omega)).mono ?_
      rintro e w2 ⟨x2, rfl, x20, x21, k2, g2⟩
      obtain ⟨j, rfl⟩ := Int.eq_ofNat_of_zero_le x20
      have hbk := (g2.block wo.heap.size (by simp) (by intro e; have := Option.some.inj e; omega)).trans (heap_alloc_new wo _)
      obtain ⟨s, hs, hsn⟩ := tab4 (j := j) (N := 4) hbk (by intro v hv; simp at hv; rcases hv with rfl | rfl | rfl | rfl | rfl | rfl | rfl <;> exact ⟨_, rfl, by decide⟩) (by simp; omega)
      have S2 := hide (((unhide hS).alloc hg hgl _).call hg hgl k2 g2)
      have z2 := (unhide S2).gr.size
      clear hbk k2 g2 hS
      have lo := hide (unhide S2).own.low
      have N2 : Hid (NSt w Bc g a len cap (.slice (some ⟨G, 0, none⟩) nL cv) L w2.heap.size s 0 [] none 0 (w2.alloc (.cells #[.string s, .int .i64 0, .slice none 0 0] 42))) := hide (nst_start hg hgl (unhide S2))
      go_upto_if 26 with fail
      go_cut [6] from 14 to 77 (fun q6 wx => ∃ d : Int, 0 ≤ d ∧ d ≤ 9 ∧ Hid (NSt w Bc g a len cap (.slice (some ⟨G, 0, none⟩) nL cv) L w2.heap.size s d [] none 0 wx))
      case first =>
        cases nL with
        | zero =>
          go_wp2
          go_meet
          exact ⟨0, by omega, by omega, N2⟩
        | succ q =>
          obtain ⟨k, pd, ad, zn, zc, c0, c1, c2, hk4, pd0, pd9, hG⟩ := last_box (unhide S2) (unhide hnL) (unhide hgd)
          have N3 := hide ((unhide N2).below hg hgl z2 (((Below.refl _ _).alloc (Nat.le_refl _) (.cells #[.string k, .int .i64 pd, .slice ad zn zc] 42))))
          have hk0 : 0 < k.size := by omega
          have hkm : k.size ≤ maxLen := by unfold maxLen; omega
          go_wp2_with fail
          refine (below_any Bc g a len cap (pd + 1) _ hg (by omega) (unhide N3).st.cur (unhide N3).st.rd (by omega)).mono ?_
          rintro e w3 ⟨x3, rfl, x30, x31, k3, g3⟩
          have N4 := hide ((unhide N3).call hg hgl z2 k3 g3)
          have y0 : w3.cell? ⟨w2.heap.size + 1, 0, none⟩ = some (.string k) := cell_grown g3 (by simp [go_sem]) (by omega)
          have y1 : w3.cell? ⟨w2.heap.size + 1, 1, none⟩ = some (.int .i64 pd) := cell_grown g3 (by simp [go_sem]) (by omega)
          have v1 := (unhide N4).c1
          have v2 := (unhide N4).f1
          have N5 := hide ((unhide N4).depth hg hgl z2 (unhide lo) x3)
          clear k3 g3 N3 N4 N2 c0 c1 c2
          cases hv : holds k
          · go_wp2_with (go_at_call 31; refine (holds_any k false _ hk0 hkm hv).mono ?_; rintro e w4 ⟨rfl, rfl⟩)
            go_meet
            exact ⟨x3, by omega, by omega, N5⟩
          · by_cases h8 : pd < 8
            · go_wp2_with (go_at_call 31; refine (holds_any k true _ hk0 hkm hv).mono ?_; rintro e w4 ⟨rfl, rfl⟩)
              refine (once_any Bc g a len cap 3 _ hg (by omega) (unhide N5).st.cur (unhide N5).st.rd (by omega)).mono ?_
              rintro e w5 ⟨x5, rfl, k5, g5⟩
              have N6 := hide ((unhide N5).call hg hgl z2 k5 g5)
              have y2 : w5.cell? ⟨w2.heap.size + 1, 1, none⟩ = some (.int .i64 pd) := cell_grown g5 (by simp [go_sem, y1]) (by omega)
              have v1' := (unhide N6).c1
              have v2' := (unhide N6).f1
              have N7 := hide ((unhide N6).depth hg hgl z2 (unhide lo) (pd + 1))
              clear k5 g5 N5 y0 y1 v1 v2
              cases x5
              · go_wp2
                go_meet
                exact ⟨pd + 1, by omega, by omega, N7⟩
              · go_wp2
                go_meet
                exact ⟨x3, by omega, by omega, N6⟩
            · have h8' : decide (pd < 8) = false := by simp; omega
              go_wp2_with (go_at_call 31; refine (holds_any k true _ hk0 hkm hv).mono ?_; rintro e w4 ⟨rfl, rfl⟩)
              go_meet
              exact ⟨x3, by omega, by omega, N5⟩
      case rest =>
        obtain ⟨d, d0, d9, N6⟩ := hcut
        have v0 := (unhide N6).c0
        clear N2
        go_upto_if 59 with (go_at_call 31; refine (holds_any s (holds s) _ (by omega) (by unfold maxLen; omega) rfl).mono ?_; rintro e w4 ⟨rfl, rfl⟩)
        go_cut [7] from 14 to 77 (fun q7 wx => ∃ (zs : List Int) (ad : Option Addr) (cz : Nat), zs.length ≤ 6 ∧ (∀ z ∈ zs, 0 ≤ z ∧ z ≤ 255) ∧ Hid (NSt w Bc g a len cap (.slice (some ⟨G, 0, none⟩) nL cv) L w2.heap.size s d zs ad cz wx))
        case first =>
          cases hv : holds s
          · go_wp2_with fail
            refine (below_any Bc g a len cap 6 _ hg (by omega) (unhide N6).st.cur (unhide N6).st.rd (by omega)).mono ?_
            rintro e w5 ⟨x5, rfl, x50, x51, k5, g5⟩
            obtain ⟨n5, rfl⟩ := Int.eq_ofNat_of_zero_le x50
            have N7 := hide ((unhide N6).call hg hgl z2 k5 g5)
            clear k5 g5 N6 v0
            go_wp2
            go_loopw [7] (fun t wr => ∃ (n : Nat) (zs : List Int) (ad : Option Addr) (cz : Nat), t = .int .i64 n ∧ zs.length + n ≤ 6 ∧ Hid (∀ z ∈ zs, 0 ≤ z ∧ z ≤ 255) ∧ Hid (NSt w Bc g a len cap (.slice (some ⟨G, 0, none⟩) nL cv) L w2.heap.size s d zs ad cz wr)) (fun t _ => (intOf t).toNat)
            case atStart => exact ⟨n5, [], none, 0, rfl, by simp; omega, hide (fun z hz => by simp at hz), N7⟩
            case round =>
              clear N7
              obtain ⟨n, zs, ad, cz, rfl, hn6, hzb, N8⟩ := hrel
              by_cases hp6 : 0 < n
              · obtain ⟨i, rfl⟩ : ∃ i, n = i + 1 := ⟨n - 1, by omega⟩
                have N9 : Hid (NSt w Bc g a len cap (.slice (some ⟨G, 0, none⟩) nL cv) L w2.heap.size s d zs ad cz wr.drew) := hide ((unhide N8).below hg hgl z2 (Below.refl _ _).drew)
                have y9 := (unhide N8).c2
                go_wp2_with fail
                go_region_law ((first
                    | (go_simp
                       go_at_call 25
                       refine (byte_any Bc g a len cap _ hg (by omega) (unhide N9).st.cur (unhide N9).st.rd).mono ?_
                       rintro e w6 ⟨x6, rfl, x60, x61, k6, g6⟩
                       have N10 := hide ((unhide N9).call hg hgl z2 k6 g6)
                       have N10b := hide ((unhide N10).below hg hgl z2 ((Below.refl _ _).alloc (Nat.le_refl _) (.cells #[.int .u8 x6] 5)))
                       have hu8 := u8_id x60 x61
                       have y10 := (unhide N10).c2
                       have hlt6 := (unhide N10).lt
                       clear k6 g6)
                    | (refine step_bytes _ (by rfl) _ _ (by rfl) (w2.heap.size + 1) zs.length (w6.heap.size + 1) (.slice ad zs.length cz) (zs.map u8) (by rfl) (unhide N10b).row ⟨w6.heap.size, 0, none⟩ 1 1 [x6] rfl (by rfl) (row_one x60 x61) (by omega) (by simp; omega) ?_
                       intro v7 w7 hown7 hgrow7 hiff7
                       obtain ⟨g7, c7, rfl⟩ := own_form hown7 (by simpa using hiff7)
                       obtain ⟨y11, f11⟩ := sd_grown (unhide N10b) hgrow7
                       have N11 := hide ((unhide N10b).app hg hgl z2 (unhide lo) (zs' := zs ++ [x6]) (zs.length + 1) (by simp) (by simpa using hown7) hgrow7)
                       clear hown7 hgrow7 hiff7)))
                all_goals
                  go_wp2
                  go_roundw
                  case rel => exact ⟨i, zs ++ [x6], some ⟨g7, 0, none⟩, c7, by go_num, by simp; omega, hide (fun z hz => by rcases List.mem_append.1 hz with hz | hz; exact unhide hzb z hz; rw [List.mem_singleton.1 hz]; exact ⟨x60, x61⟩), N11⟩
                  case measure => simp [intOf]
              · obtain rfl : n = 0 := by omega
                go_wp2
                go_meet
                exact ⟨zs, ad, cz, by omega, unhide hzb, N8⟩
          · go_wp2
            go_meet
            exact ⟨[], none, 0, by simp, fun z hz => by simp at hz, N6⟩
        case rest =>
          obtain ⟨zs, ad, cz, hz6, hzb, N8⟩ := hcut
          have b0 := (unhide N8).c0
          have b1 := (unhide N8).c1
          have b2 := (unhide N8).c2
          have N9 := hide ((unhide N8).below hg hgl z2 ((Below.refl _ _).alloc (Nat.le_refl _) (.cells #[.string s, .int .i64 d, .slice ad zs.length cz] 42)))
          have hgood := hide ((unhide N9).good z2 (unhide lo) hsn d0 d9 hz6 hzb (unhide N9).cz_le)
          have zc := (unhide N8).st.gr.size
          have hLl : L.length ≤ 1000000 := by have := unhide hnL; omega
          have hgd' := hide ((unhide hgd).snoc (p := (⟨s, d, zs⟩, (ad, cz))) hsn d0 d9 hz6)
          clear N6 v0 N8
          go_wp2_with (at_builtin; refine wpList_box _ rfl _ _ rfl w.heap.size g (.slice (some ⟨G, 0, none⟩) nL cv) L (⟨s, d, zs⟩, (ad, cz)) rfl (unhide N9).st.own ((unhide N9).st.offg hgl) wc.heap.size rfl (heap_alloc_new wc _) (unhide hgood).1 ((unhide N9).offrow hgl z2) (unhide hgood).2.1 hLl (by simp; omega) (by simp; omega) ?_)
          intro g' cap' w' hOwn hOff hGrow
          have S9 := hide ((unhide N9).fin (n := 0) hg hgl z2 (unhide lo) hOwn hGrow)
          clear hOwn hOff hGrow N9 hgood b0 b1 b2
          go_wp2
          go_roundw
          case rel => exact ⟨m, L.length + 1, g', cap', _, by go_num, rfl, by have := unhide hnL; omega, hide (by simp), hgd', S9⟩
          case measure => simp [intOf]
    · obtain rfl : n = 0 := by omega
      clear hpos
      have hnL12 : nL ≤ 12 := by omega
      go_upto_region 17 with fail
      go_cut [84] from 78 (fun c wx => ∃ b : Bool, c = .bool b ∧ (b = true → 0 < nL) ∧ Hid (BSt w Bc g a len cap (.slice (some ⟨G, 0, none⟩) nL cv) L wx))
      case first =>
        go_wp2_with fail
        refine (once_any Bc g a len cap 16 _ hg (by omega) (unhide hS).cur (unhide hS).rd (by omega)).mono ?_
        rintro e w5 ⟨x5, rfl, k5, g5⟩
        have S5 := hide ((unhide hS).call hg hgl k5 g5)
        clear k5 g5 hS
        cases x5
        · go_wp2
          go_meet
          exact ⟨false, rfl, by simp, S5⟩
        · go_wp2
          go_meet
          first | exact ⟨decide (0 < nL), rfl, of_decide_eq_true, S5⟩ | exact ⟨decide ((0 : Int) < (nL : Int)), rfl, fun h => by have := of_decide_eq_true h; omega, S5⟩
      case rest =>
        obtain ⟨bb, h84, hL0, S5⟩ := hcut
        subst h84
        clear hS
        go_upto_if 84 with fail
        go_cut [8] from 78 (fun q8 wx => ∃ L', L'.length = nL ∧ Good L' ∧ Hid (DSt w Bc g a len cap (.slice (some ⟨G, 0, none⟩) nL cv) L' wx))
        case first =>
          cases bb
          · go_wp2
            go_meet
            exact ⟨L, unhide hnL, (unhide S5).good (unhide hgd), hide (unhide S5).dst⟩
          · have hLp := hL0 rfl
            clear hL0
            go_wp2_with fail
            refine (below_any Bc g a len cap nL _ hg (by omega) (unhide S5).cur (unhide S5).rd (by omega)).mono ?_
            rintro e w6 ⟨x6, rfl, x60, x61, k6, g6⟩
            obtain ⟨q, rfl⟩ := Int.eq_ofNat_of_zero_le x60
            have S6 := hide ((unhide S5).call hg hgl k6 g6)
            have hq : q < nL := by omega
            clear k6 g6 S5
            go_wp2_with fail
            refine (below_any Bc g a len cap 4 _ hg (by omega) (unhide S6).cur (unhide S6).rd (by omega)).mono ?_
            rintro e w7 ⟨x7, rfl, x70, x71, k7, g7⟩
            have S7 := hide ((unhide S6).call hg hgl k7 g7)
            clear k7 g7 S6
            obtain ⟨p, hpq⟩ : ∃ p, L[q]? = some p := ⟨L[q]'(by have := unhide hnL; omega), List.getElem?_eq_getElem _⟩
            obtain ⟨c0, c1, c2, f0, f1, f2, hGl, hk4, hd0, hd9, hz6⟩ := box_at (unhide S7) (unhide hnL) (unhide hgd) hpq
            have hpq' := hide hpq
            clear hpq
            by_cases e0 : x7 = 0
            · subst e0
              clear c0 c1 c2 f0 f1 f2
              go_wp2_with fail
              refine (below_any Bc g a len cap 5 _ hg (by omega) ((unhide S7).alloc hg hgl _).cur ((unhide S7).alloc hg hgl _).rd (by omega)).mono ?_
              rintro e w8 ⟨x8, rfl, x80, x81, k8, g8⟩
              obtain ⟨j, rfl⟩ := Int.eq_ofNat_of_zero_le x80
              have z7 := (unhide S7).gr.size
              have hbk := (g8.block w7.heap.size (by simp) (by intro e; have := Option.some.inj e; omega)).trans (heap_alloc_new w7 _)
              obtain ⟨s, hs, hsn⟩ := tab (j := j) (N := 5) hbk (by intro v hv; simp at hv; rcases hv with rfl | rfl | rfl | rfl | rfl <;> exact ⟨_, rfl, by decide⟩) (by simp; omega)
              have S8 := hide (((unhide S7).alloc hg hgl _).call hg hgl k8 g8)
              obtain ⟨c0, c1, c2, f0, f1, f2, _⟩ := box_at (unhide S8) (unhide hnL) (unhide hgd) (unhide hpq')
              have hfin := hide ((unhide S8).spoil (f := 0) (u := .string s) hg hgl (unhide hnL) (unhide hpq') s p.1.d hsn (by omega) (by omega) (by decide) rfl ((unhide S8).good (unhide hgd)))
              clear hbk k8 g8 S7 S8
              go_wp2
              go_meet
              obtain ⟨L', q1, q2, q3⟩ := unhide hfin
              exact ⟨L', q1, q2, hide q3⟩
            by_cases e1 : x7 = 1
            · subst e1
              have z7 := (unhide S7).gr.size
              have S7d : Hid (BSt w Bc g a len cap (.slice (some ⟨G, 0, none⟩) nL cv) L w7.drew) := hide ((unhide S7).below hg hgl (Below.refl _ _).drew)
              have hw1 : IntKind.i64.wrap (p.1.d + 1) = p.1.d + 1 := by rw [IntKind.wrap_i64]; omega
              have S7e := hide ((unhide S7d).alloc hg hgl (.cells #[.int .i64 (-1), .int .i64 0, .int .i64 9, .int .i64 (p.1.d + 1)] 2))
              have hlt7 : w7.drew.heap.size = w7.heap.size := rfl
              go_wp2_with fail
              go_region_with ((
                go_at_call 24
                first | refine (below_any Bc g a len cap 4 _ hg (by omega) (unhide S7d).cur (unhide S7d).rd (by omega)).mono ?_ | refine (below_any Bc g a len cap 4 _ hg (by omega) (unhide S7e).cur (unhide S7e).rd (by omega)).mono ?_
                rintro e w8 ⟨x8, rfl, x80, x81, k8, g8⟩
                obtain ⟨j, rfl⟩ := Int.eq_ofNat_of_zero_le x80
                have hj4 : j < 4 := by omega
                first
                  | (have S8 := hide ((unhide S7d).call hg hgl k8 g8)
                     obtain ⟨d', hd1, hd2, hd3⟩ := tabI (w := w8) (x := p.1.d + 1) hj4 (by omega) (by omega))
                  | (have S8 := hide ((unhide S7e).call hg hgl k8 g8)
                     obtain ⟨d', hd1, hd2, hd3⟩ := tabB (x := p.1.d + 1) hj4 (by omega) (by omega) ((g8.block w7.heap.size (by simp) (by intro e; have := Option.some.inj e; omega)).trans (heap_alloc_new w7.drew _)))
                obtain ⟨y0, y1, y2, v0, v1, v2, hGl8, _⟩ := box_at (unhide S8) (unhide hnL) (unhide hgd) (unhide hpq')
                clear k8 g8 y0 y2 v0 v2))
              all_goals
                have hfin := hide ((unhide S8).spoil (f := 1) (u := .int .i64 d') hg hgl (unhide hnL) (unhide hpq') p.1.k d' (by omega) hd2 hd3 (by decide) rfl ((unhide S8).good (unhide hgd)))
                go_wp2
                go_meet
                obtain ⟨L', q1, q2, q3⟩ := unhide hfin
                first | exact ⟨L', q1, q2, hide q3⟩ | exact ⟨L', q1, q2, hide (q3.alloc hg hgl _)⟩
            by_cases e2 : x7 = 2
            · subst e2
              have z7 := (unhide S7).gr.size
              have S8 := hide ((unhide S7).alloc hg hgl (.cells #[.int .u8 7] 5))
              have hrow8 := hide ((unhide S8).rows p (List.mem_of_getElem? (unhide hpq')))
              go_wp2_with (at_builtin; refine wpList_bytesL _ rfl _ _ rfl w.heap.size p.1.z.length (w7.heap.size + 1) (.slice p.2.1 p.1.z.length p.2.2) (p.1.z.map u8) rfl (unhide hrow8) ⟨w7.heap.size, 0, none⟩ 1 1 [7] rfl (by decide) rfl (row_one (by decide) (by decide)) (by omega) (by simp; omega) ?_)
              intro g9 c9 w9 hown9 hgrow9 hat9
              have hne9 := hide hgrow9
              have hbd := hide ((unhide S7).own.2.1 p (List.mem_of_getElem? (unhide hpq'))).1.bd
              have hfin := hide ((unhide S8).spoilRow (zs := p.1.z ++ [7]) hg hgl (unhide hnL) (unhide hpq') ((unhide S8).good (unhide hgd)) hgrow9 (by simpa [u8] using hown9) (by simp) (fun z hz => by rcases List.mem_append.1 hz with hz | hz; exact unhide hbd z hz; rw [List.mem_singleton.1 hz]; decide) (by omega) (by rcases hat9 with h | h; exact .inl h; exact .inr (by first | exact Nat.le_of_eq h.symm | (simp; omega))))
              have hG9 := hgrow9.block G (by simp; omega) (rowG (unhide S8) (unhide hpq'))
              have y2 : w9.cell? ⟨G, q * 3 + 2, none⟩ = some (.slice p.2.1 p.1.z.length p.2.2) := (World.cell?_of_block (a := ⟨G, q * 3 + 2, none⟩) hG9).trans ((World.cell?_alloc_past _ _ _ hGl).trans c2)
              have y3 : w9.frozen? ⟨G, q * 3 + 2, none⟩ = false := (World.frozen?_of_block (a := ⟨G, q * 3 + 2, none⟩) hG9).trans ((World.frozen?_of_block (a := ⟨G, q * 3 + 2, none⟩) (Below.heap_alloc w7 _ _ hGl)).trans f2)
              clear hown9 hgrow9 hat9 hG9 S7 S8 c0 c1 c2 f0 f1 f2
              go_wp2
              go_meet
              obtain ⟨L', q1, q2, q3⟩ := unhide hfin
              exact ⟨L', q1, q2, hide q3⟩
            obtain rfl : x7 = 3 := by omega
            clear c0 c1 c2 f0 f1 f2
            go_wp2_with fail
            refine (below_any Bc g a len cap 2 _ hg (by omega) (unhide S7).cur (unhide S7).rd (by omega)).mono ?_
            rintro e w8 ⟨x8, rfl, x80, x81, k8, g8⟩
            obtain ⟨j, rfl⟩ := Int.eq_ofNat_of_zero_le x80
            have S8 := hide ((unhide S7).call hg hgl k8 g8)
            have z8 := (unhide S8).gr.size
            obtain ⟨c0, c1, c2, f0, f1, f2, hG8, _⟩ := box_at (unhide S8) (unhide hnL) (unhide hgd) (unhide hpq')
            clear k8 g8 S7 c0 c1 f0 f1
            obtain ⟨i0, hi, hz0, hz1, hz2⟩ := info_parts info5
            go_wp2_with (refine wpList_make_full _ rfl _ _ 22 rfl w.heap.size 5 i0 (.int .u8 0) 1 Try.underlying22 hi hz0 hz1 .i64 .i64 _ _ (20000 + j) rfl rfl rfl rfl ?b2 ?b3 z8 ?_)
            case b2 => rw [hz2]; omega
            case b3 => unfold maxLen; omega
            intro w9 hown9 hgr9
            have hb9 : Below w8.heap.size w8 w9 := (Below.refl _ _).grown hgr9 (Nat.le_refl _) (fun k hk => by cases hk)
            have hown9' : w9.ownsRow w.heap.size 5 1 (.slice (some ⟨w8.heap.size, 0, none⟩) (20000 + j) (20000 + j)) (20000 + j) ((List.replicate (20000 + j) (0 : Int)).map u8) := by
              rw [toList_madeCells_one] at hown9; simpa [u8] using hown9
            have y2 : w9.cell? ⟨G, q * 3 + 2, none⟩ = some (.slice p.2.1 p.1.z.length p.2.2) := ((bcell hb9).1 _ _ hG8).trans c2
            have y3 : w9.frozen? ⟨G, q * 3 + 2, none⟩ = false := ((bcell hb9).2 _ _ hG8).trans f2
            have hfin := hide ((unhide S8).spoilRow (zs := List.replicate (20000 + j) 0) hg hgl (unhide hnL) (unhide hpq') ((unhide S8).good (unhide hgd)) (grown_below hb9) hown9' (by simp) (fun z hz => by rw [List.eq_of_mem_replicate hz]; decide) (by omega) (.inr (Nat.le_refl _)))
            clear hown9 hown9' hb9 hgr9 S8 c2 f2
            go_wp2
            go_meet
            obtain ⟨L', q1, q2, q3⟩ := unhide hfin
            exact ⟨L', q1, q2, hide q3⟩
        case rest =>
          obtain ⟨L', hL', hgood, S6⟩ := hcut
          clear S5 hL0
          go_wp2_with fail
          refine (once_any Bc g a len cap 40 _ hg (by omega) (unhide S6).cur (unhide S6).rd (by omega)).mono ?_
          rintro e w9 ⟨x9, rfl, k9, g9⟩
          have D9 := hide ((unhide S6).call hg hgl k9 g9)
          clear k9 g9 S6
          go_upto_if 139 with fail
          go_cut [3, 9] from 140 (fun s3 t9 wx => ∃ (n2 G2 c2 : Nat) (L2 : List (Bx × (Option Addr × Nat))), s3 = .slice (some ⟨G2, 0, none⟩) n2 c2 ∧ L2.length = n2 ∧ n2 ≤ 1000 ∧ Good L2 ∧ Hid (DSt w Bc g a len cap (.slice (some ⟨G2, 0, none⟩) n2 c2) L2 wx))
          case first =>
            cases x9
            · go_wp2
              go_meet
              exact ⟨nL, G, cv, L', rfl, hL', by omega, hgood, D9⟩
            · have D10 := hide (dst_new (unhide D9) hg hgl)
              clear D9
              go_wp2
              go_loopw [3, 9] (fun s3 t9 wr => ∃ (i G2 c2 : Nat) (L2 : List (Bx × (Option Addr × Nat))), t9 = .int .i64 i ∧ s3 = .slice (some ⟨G2, 0, none⟩) i c2 ∧ i ≤ 201 ∧ Hid (L2.length = i) ∧ Hid (Nil4 L2) ∧ Hid (DSt w Bc g a len cap (.slice (some ⟨G2, 0, none⟩) i c2) L2 wr)) (fun _ t9 _ => 201 - (intOf t9).toNat)
              case atStart => exact ⟨0, w9.heap.size, 0, [], rfl, rfl, by omega, hide rfl, hide (fun p hp => by simp at hp), D10⟩
              case round =>
                clear D10
                obtain ⟨i, G2, c2, L2, rfl, rfl, hi, hL2, hn4, D11⟩ := hrel
                go_wp2_with fail
                refine (below_any Bc g a len cap 2 _ hg (by omega) (unhide D11).cur (unhide D11).rd (by omega)).mono ?_
                rintro e w12 ⟨x12, rfl, x120, x121, k12, g12⟩
                obtain ⟨j, rfl⟩ := Int.eq_ofNat_of_zero_le x120
                have D12 := hide ((unhide D11).call hg hgl k12 g12)
                have z12 := (unhide D12).gr.size
                have hL2l : L2.length ≤ 1000000 := by have := unhide hL2; omega
                clear k12 g12 D11
                by_cases hlt : i < 200 + j
                · have hlt2 : (i : Int) < 200 + (j : Int) := by omega
                  have D13 := hide ((unhide D12).alloc hg hgl (.cells #[.string { data := #[115, 107, 105, 112] }, .int .i64 0, .slice none 0 0] 42))
                  go_wp2_with (at_builtin; refine wpList_box _ rfl _ _ rfl w.heap.size g (.slice (some ⟨G2, 0, none⟩) i c2) L2 (⟨{ data := #[115, 107, 105, 112] }, 0, []⟩, (none, 0)) rfl (unhide D13).own ((unhide D13).offg hgl (unhide hn4).none) w12.heap.size rfl (heap_alloc_new w12 _) (good_nil _ _ (by decide) (by omega) (by omega)) (fun y hy => by cases hy) (fun q hq x y hx hy => by cases hy) hL2l (by simp; omega) (by simp; omega) ?_)
                  intro g' cap' w' hOwn hOff hGrow
                  have D14 := hide ((unhide D13).app hg hgl hOwn hGrow)
                  have hn4' := hide ((unhide hn4).snoc { data := #[115, 107, 105, 112] } 0 (by decide))
                  have hL3 := unhide hL2
                  clear hOwn hOff hGrow D13 D12
                  subst hL3
                  go_wp2
                  go_roundw
                  case rel => exact ⟨L2.length + 1, g', cap', _, by go_num, rfl, by omega, hide (by simp), hn4', D14⟩
                  case measure => simp [intOf]; omega
                · have hlt2 : ¬ (i : Int) < 200 + (j : Int) := by omega
                  go_wp2
                  go_meet
                  exact ⟨i, G2, c2, L2, rfl, unhide hL2, by omega, (unhide hn4).good, D12⟩
          case rest =>
            obtain ⟨n2, G2, c2, L2, h3, hL2, hn2, hgood2, D15⟩ := hcut
            subst h3
            clear D9
            go_wp2_with fail
            refine (once_any Bc g a len cap 40 _ hg (by omega) (unhide D15).cur (unhide D15).rd (by omega)).mono ?_
            rintro e w9 ⟨x9, rfl, k9, g9⟩
            have D9 := hide ((unhide D15).call hg hgl k9 g9)
            clear k9 g9 D15
            go_upto_if 153 with fail
            go_cut [3, 10] from 154 (fun s3 t9 wx => ∃ (n2 G2 c2 : Nat) (L2 : List (Bx × (Option Addr × Nat))), s3 = .slice (some ⟨G2, 0, none⟩) n2 c2 ∧ L2.length = n2 ∧ n2 ≤ 1000 ∧ Good L2 ∧ Hid (DSt w Bc g a len cap (.slice (some ⟨G2, 0, none⟩) n2 c2) L2 wx))
            case first =>
              cases x9
              · go_wp2
                go_meet
                exact ⟨n2, G2, c2, L2, rfl, hL2, hn2, hgood2, D9⟩
              · have D10 := hide (dst_new (unhide D9) hg hgl)
                clear D9
                go_wp2
                go_loopw [3, 10] (fun s3 t9 wr => ∃ (i G2 c2 : Nat) (L2 : List (Bx × (Option Addr × Nat))), t9 = .int .i64 i ∧ s3 = .slice (some ⟨G2, 0, none⟩) i c2 ∧ i ≤ 10 ∧ Hid (L2.length = i) ∧ Hid (Nil4 L2) ∧ Hid (DSt w Bc g a len cap (.slice (some ⟨G2, 0, none⟩) i c2) L2 wr)) (fun _ t9 _ => 10 - (intOf t9).toNat)
                case atStart => exact ⟨0, w9.heap.size, 0, [], rfl, rfl, by omega, hide rfl, hide (fun p hp => by simp at hp), D10⟩
                case round =>
                  clear D10
                  obtain ⟨i, G2, c2, L2, rfl, rfl, hi, hL2, hn4, D11⟩ := hrel
                  go_wp2_with fail
                  refine (below_any Bc g a len cap 2 _ hg (by omega) (unhide D11).cur (unhide D11).rd (by omega)).mono ?_
                  rintro e w12 ⟨x12, rfl, x120, x121, k12, g12⟩
                  obtain ⟨j, rfl⟩ := Int.eq_ofNat_of_zero_le x120
                  have D12 := hide ((unhide D11).call hg hgl k12 g12)
                  have z12 := (unhide D12).gr.size
                  have hL2l : L2.length ≤ 1000000 := by have := unhide hL2; omega
                  clear k12 g12 D11
                  by_cases hlt : i < 9 + j
                  · have hlt2 : (i : Int) < 9 + (j : Int) := by omega
                    have D13 := hide ((unhide D12).alloc hg hgl (.cells #[.string { data := #[68, 69, 69, 80] }, .int .i64 (i : Int), .slice none 0 0] 42))
                    go_wp2_with (at_builtin; refine wpList_box _ rfl _ _ rfl w.heap.size g (.slice (some ⟨G2, 0, none⟩) i c2) L2 (⟨{ data := #[68, 69, 69, 80] }, (i : Int), []⟩, (none, 0)) rfl (unhide D13).own ((unhide D13).offg hgl (unhide hn4).none) w12.heap.size rfl (heap_alloc_new w12 _) (good_nil _ _ (by decide) (by omega) (by omega)) (fun y hy => by cases hy) (fun q hq x y hx hy => by cases hy) hL2l (by simp; omega) (by simp; omega) ?_)
                    intro g' cap' w' hOwn hOff hGrow
                    have D14 := hide ((unhide D13).app hg hgl hOwn hGrow)
                    have hn4' := hide ((unhide hn4).snoc { data := #[68, 69, 69, 80] } (i : Int) (by decide))
                    have hL3 := unhide hL2
                    clear hOwn hOff hGrow D13 D12
                    subst hL3
                    go_wp2
                    go_roundw
                    case rel => exact ⟨L2.length + 1, g', cap', _, by go_num, rfl, by omega, hide (by simp), hn4', D14⟩
                    case measure => simp [intOf]; omega
                  · have hlt2 : ¬ (i : Int) < 9 + (j : Int) := by omega
                    go_wp2
                    go_meet
                    exact ⟨i, G2, c2, L2, rfl, unhide hL2, by omega, (unhide hn4).good, D12⟩
            case rest =>
              obtain ⟨n2, G2, c2, L2, h3, hL2, hn2, hgood2, D16⟩ := hcut
              subst h3
              clear D9
              go_wp2
              go_ret
              exact ⟨_, L2, rfl, (unhide D16).own, by omega, ⟨hgood2, _, _, _, rfl⟩, (unhide D16).cur, (unhide D16).gr⟩
theorem drB : DrB := drB2.drB
end Go.Proofs.Ytfdbnlmfnhhcbaa
