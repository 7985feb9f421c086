/-
  The model's ReadList: its contract.
-/
import Derived.Test.YtfhbmfndjbdhcaaGreatDoorR16
import Derived.Test.YtfhbmfndjbdhcaaGreatDoorRdP
namespace Go.Proofs.YtfhbmfndjbdhcaaGreatDoor
open Go.RowKit
set_option linter.unusedVariables false
set_option linter.unusedSimpArgs false

theorem blk2f {X : World} {b : Nat} {t : TypeId} {v0 v1 : Value} (h : X.heap[b]? = some (.cells #[v0, v1] t (0, 0))) : X.cell? ⟨b, 0, none⟩ = some v0 ∧ X.cell? ⟨b, 1, none⟩ = some v1 ∧ X.frozen? ⟨b, 0, none⟩ = false ∧ X.frozen? ⟨b, 1, none⟩ = false := by
  refine ⟨?_, ?_, ?_, ?_⟩ <;> simp [World.cell?, World.frozen?, h]
theorem blk3r {X : World} {b : Nat} {t : TypeId} {v0 v1 v2 : Value} (h : X.heap[b]? = some (.cells #[v0, v1, v2] t (0, 0))) : X.cell? ⟨b, 0, none⟩ = some v0 ∧ X.cell? ⟨b, 1, none⟩ = some v1 ∧ X.cell? ⟨b, 2, none⟩ = some v2 := by
  refine ⟨?_, ?_, ?_⟩ <;> simp [World.cell?, h]
theorem lt_blkf {X : World} {b : Nat} {o : Obj} (h : X.heap[b]? = some o) : b < X.heap.size := (Array.getElem?_eq_some_iff.1 h).1
theorem wpList_kE {ops : Array Oper} {rest : List Oper} {o : Oper} {a : Act} {Q : Exit → Act → World → Prop} {X : World} {B g n cap E : Nat} {v1 v2 v3 z : Int} {L : List Kl} (hgd : o.guard = none) (s x : Operand) (ho : o.op = .call { callee := .builtin .append, args := #[s, x], argTypes := #[26, 26] })
    (hs : a.eval s = .slice (some ⟨g, 0, none⟩) n cap) (hown : Own X B g n cap L) (hx : a.eval x = .slice (some ⟨X.heap.size, 0, none⟩) 1 1) (hl : n ≤ 1000000) (hB : B ≤ X.heap.size) (hE : g < E) (hz : X.cell? ⟨E, 2, none⟩ = some (.int .i64 z))
    (h : ∀ g' cap' w', Own w' B g' (n + 1) cap' (L ++ [(v1, v2, v3)]) → Below B X w' → w'.cell? ⟨E, 2, none⟩ = some (.int .i64 z) → wpList Tryz.prog ops Q rest (a.put o.dst (.slice (some ⟨g', 0, none⟩) (n + 1) cap')) w') : wpList Tryz.prog ops Q (o :: rest) a (X.alloc (.cells #[.int .i64 v1, .int .i64 v2, .int .i64 v3] 44)) := by
  obtain ⟨i0, hi, hz0, hz1, hz2⟩ := info_parts info44
  have hBg : B ≤ g := (hown.lt g rfl).1
  have hEX : E < X.heap.size := World.block_lt_of_cell? _ _ hz
  have hgX : g < X.heap.size := own_lt hown
  have hb2 : Below B X (X.alloc (.cells #[.int .i64 v1, .int .i64 v2, .int .i64 v3] 44)) := (Below.refl _ _).alloc hB _
  refine wpList_append_lies _ hgd s x 26 ho B 44 i0 (.agg #[.int .i64 0, .int .i64 0, .int .i64 0]) 3 24 Tryz.underlying26 hi hz0 hz1 hz2 rfl (by decide) _ n (flK L) hs (own_blk hown ((Below.refl X.heap.size X).alloc (Nat.le_refl _) _) hgX) ⟨X.heap.size, 0, none⟩ 1 1 [iv v1, iv v2, iv v3] hx rfl (K_news (c := (v1, v2, v3)) (heap_alloc_new X _)) (by intro u hu; simp at hu; rcases hu with rfl | rfl | rfl <;> rfl) (by decide) (by unfold maxLen; omega) (by omega) (by simp; omega) _ rfl ?_
  intro g' cap' w' h1 h2 h3 h4
  refine h g' cap' w' (by show World.ownsRow _ _ _ _ _ _ _; rw [flK_append]; exact h1) ?_ ?_
  · exact hb2.grown h2 (by simp; omega) (fun k hk => by simp [Value.ownBlock] at hk; omega)
  · have e1 : w'.heap[E]? = (X.alloc (.cells #[.int .i64 v1, .int .i64 v2, .int .i64 v3] 44)).heap[E]? := h2.block E (by simp; omega) (by intro hh; simp [Value.ownBlock] at hh; omega)
    rw [Below.heap_alloc _ _ _ hEX] at e1
    unfold World.cell? at hz ⊢
    rw [e1]; exact hz
theorem bel2 {W w1 : World} {b : Nat} {u v : Value} (o : Obj) (h : Below W.heap.size W w1) (hb : W.heap.size ≤ b) : Below W.heap.size W (((w1.setCell ⟨b, 0, none⟩ u).setCell ⟨b, 1, none⟩ v).alloc o) := by
  have h1 := (h.setCell (p := ⟨b, 0, none⟩) hb u).setCell (p := ⟨b, 1, none⟩) hb v
  exact h1.alloc h1.size o
theorem bel2s {W w1 : World} {b : Nat} {u v : Value} (h : Below W.heap.size W w1) (hb : W.heap.size ≤ b) : Below W.heap.size W ((w1.setCell ⟨b, 0, none⟩ u).setCell ⟨b, 1, none⟩ v) := (h.setCell (p := ⟨b, 0, none⟩) hb u).setCell (p := ⟨b, 1, none⟩) hb v
theorem lit2 {w1 : World} {B b : Nat} {u v : Value} (hB : B ≤ w1.heap.size) : Own (((w1.setCell ⟨b, 0, none⟩ u).setCell ⟨b, 1, none⟩ v).alloc (.cells #[] 44)) B w1.heap.size 0 0 [] := by
  have h := own_lit0 (B := B) ((w1.setCell ⟨b, 0, none⟩ u).setCell ⟨b, 1, none⟩ v) (by simpa using hB)
  simpa using h
theorem own_set2 {w : World} {B b g n cap : Nat} {l : List Kl} {u v : Value} (h : Own w B g n cap l) (hne : g ≠ b) : Own ((w.setCell ⟨b, 0, none⟩ u).setCell ⟨b, 1, none⟩ v) B g n cap l := by
  have H : ∀ (X : World) (i : Nat) (x : Value), Own X B g n cap l → Own (X.setCell ⟨b, i, none⟩ x) B g n cap l := fun X i x hX => by
    obtain ⟨h1, h2⟩ := hX
    refine ⟨h1, ?_⟩
    rcases h2 with h2 | ⟨g', cap', cur, hv, hB, hh, r⟩
    · exact Or.inl h2
    · refine Or.inr ⟨g', cap', cur, hv, hB, ?_, r⟩
      injection hv with e1
      injection e1 with e1
      injection e1 with e1
      subst e1
      rw [Below.heap_setCell X ⟨b, i, none⟩ x g (by simpa using hne)]; exact hh
  exact H _ _ _ (H _ _ _ h)
theorem own_up2 {w : World} {B B' g n cap : Nat} {l : List Kl} (h : Own w B g n cap l) (hB : B' ≤ B) : Own w B' g n cap l := own_mono h hB

set_option maxRecDepth 100000 in
set_option maxHeartbeats 6400000 in
theorem sread_any (n d : Int) (dr : Bool) (s : ByteArray) (w : World) (hsm : s.size ≤ maxLen) : Calls Tryz.prog 12 #[.agg #[.int .i64 n, .int .i64 d, .bool dr], .string s] w (RlP w (rdO n d dr s.data.toList)) := by
  obtain ⟨l, hl⟩ : ∃ l, s.data.toList = l := ⟨_, rfl⟩
  have hsz : s.size = l.length := by rw [Lib.size_eq, hl]
  rw [hl]
  have hl' := hide hl
  clear hl
  unfold maxLen at hsm
  have B0 : Hid (((w.alloc (.cells #[.int .i64 n, .int .i64 d, .bool dr] 25)).alloc (.cells #[.int .i64 0, .int .i64 0] 31)).heap[w.heap.size]? = some (.cells #[.int .i64 n, .int .i64 d, .bool dr] 25 (0, 0))) := hide (by rw [Below.heap_alloc _ _ _ (by simp)]; exact alloc_new w _)
  have B1 : Hid (((w.alloc (.cells #[.int .i64 n, .int .i64 d, .bool dr] 25)).alloc (.cells #[.int .i64 0, .int .i64 0] 31)).heap[w.heap.size + 1]? = some (.cells #[.int .i64 0, .int .i64 0] 31 (0, 0))) := hide (by have := alloc_new (w.alloc (.cells #[.int .i64 n, .int .i64 d, .bool dr] 25)) (.cells #[.int .i64 0, .int .i64 0] 31); rwa [World.size_alloc] at this)
  have H0 : Hid (Below w.heap.size w ((w.alloc (.cells #[.int .i64 n, .int .i64 d, .bool dr] 25)).alloc (.cells #[.int .i64 0, .int .i64 0] 31))) := hide (((Below.refl _ _).alloc (Nat.le_refl _) _).alloc (by simp) _)
  by_cases hr : Pl.rok n d dr = true
  · have hrk := hide hr
    by_cases h2 : 20000 < l.length
    · rw [rd_2 hr h2]
      have g2 : decide ((20000 : Int) < l.length) = true := by simp; omega
      clear hr h2
      go_enter Tryz.func12, Tryz.ntmps12
      go_wp2_with fail
      refine (srok_any n d dr _).mono ?_
      rintro e w1 ⟨rfl, hb1⟩
      have R1 := hide ((hb1.block _ (by simp; omega)).trans (unhide B0))
      have O1 := hide ((hb1.block _ (by simp)).trans (unhide B1))
      have H1 := hide (laterB (unhide H0) hb1)
      clear hb1 B0 B1 H0
      rw [unhide hrk]
      obtain ⟨o0, o1, p0, p1⟩ := blk2f (unhide O1)
      have hlt := lt_blkf (unhide O1)
      have hne : ¬ (w.heap.size + 1 = w1.heap.size) := by omega
      go_wp2
      skip
      refine bodyPost_ret (v := .tuple #[.slice (some ⟨w1.heap.size, 0, none⟩) 0 0, .agg #[.int .i64 2, .int .i64 0]]) (by simp [results, Tryz.results12, go_sem, o0, o1, hlt]) rfl ⟨w1.heap.size, 0, rfl, (unhide H1).size, ?_, ?_⟩
      · exact lit2 (unhide H1).size
      · exact bel2 _ (unhide H1) (by omega)
    have g2 : decide ((20000 : Int) < l.length) = false := by simp; omega
    have hl2 : l.length ≤ 20000 := by omega
    by_cases h3 : l ≠ [] ∧ l.getLast? ≠ some 10
    · rw [rd_3 hr hl2 h3]
      have h0 : 0 < l.length := List.length_pos_iff.2 h3.1
      obtain ⟨b, hb⟩ : ∃ b, l[l.length - 1]? = some b := ⟨_, List.getElem?_eq_getElem (by omega)⟩
      have hb10 : b ≠ 10 := fun e => h3.2 (by rw [last_at h3.1 hb, e])
      have ix := idx_str (unhide hl') hb
      have ec : ((l.length - 1 : Nat) : Int) = (l.length : Int) - 1 := by omega
      rw [ec] at ix
      have gb : ((b.toNat : Int) != 10) = true := by simp; intro h; exact hb10 (UInt8.toNat_inj.1 (by have : ((10 : UInt8).toNat : Nat) = 10 := rfl; omega))
      have g3 : decide ((0 : Int) < l.length) = true := by simp; omega
      clear hr h2 h3 hb hb10 ec
      go_enter Tryz.func12, Tryz.ntmps12
      go_wp2_with fail
      refine (srok_any n d dr _).mono ?_
      rintro e w1 ⟨rfl, hb1⟩
      have R1 := hide ((hb1.block _ (by simp; omega)).trans (unhide B0))
      have O1 := hide ((hb1.block _ (by simp)).trans (unhide B1))
      have H1 := hide (laterB (unhide H0) hb1)
      clear hb1 B0 B1 H0
      rw [unhide hrk]
      obtain ⟨o0, o1, p0, p1⟩ := blk2f (unhide O1)
      have hlt := lt_blkf (unhide O1)
      have hne : ¬ (w.heap.size + 1 = w1.heap.size) := by omega
      go_wp2
      skip
      refine bodyPost_ret (v := .tuple #[.slice (some ⟨w1.heap.size, 0, none⟩) 0 0, .agg #[.int .i64 3, .int .i64 0]]) (by simp [results, Tryz.results12, go_sem, o0, o1, hlt]) rfl ⟨w1.heap.size, 0, rfl, (unhide H1).size, ?_, ?_⟩
      · exact lit2 (unhide H1).size
      · exact bel2 _ (unhide H1) (by omega)
    rw [rd_4 hr hl2 h3]
    clear hr h2
    obtain ⟨R, hR⟩ : ∃ R, readF n d dr (linesOf l) [] 0 = R := ⟨_, rfl⟩
    rw [hR]
    go_enter Tryz.func12, Tryz.ntmps12
    go_wp2_with fail
    refine (srok_any n d dr _).mono ?_
    rintro e w1 ⟨rfl, hb1⟩
    have R1 := hide ((hb1.block _ (by simp; omega)).trans (unhide B0))
    have O1 := hide ((hb1.block _ (by simp)).trans (unhide B1))
    have H1 := hide (laterB (unhide H0) hb1)
    clear hb1 B0 B1 H0
    rw [unhide hrk]

    have hal : Below w1.heap.size w1 (w1.alloc (.cells #[] 44)) := (Below.refl _ _).alloc (Nat.le_refl _) _
    have R2 := hide ((hal.block _ (lt_blkf (unhide R1))).trans (unhide R1))
    have O2 := hide ((hal.block _ (lt_blkf (unhide O1))).trans (unhide O1))
    have H2 := hide (laterB (unhide H1) hal)
    have hs1 : w.heap.size + 1 < w1.heap.size := lt_blkf (unhide O1)
    have W2 := hide (own_lit0 (B := w.heap.size + 2) w1 (by omega))
    have F0 : Hid (readF n d dr (linesG ((l.take 0).drop 0) (l.drop 0)) [] 0 = R) := hide (by simpa [linesOf] using hR)
    have hend : Hid (l = [] ∨ l.getLast? = some 10) := hide (by
      by_cases h : l = []
      · exact Or.inl h
      · exact Or.inr (Classical.byContradiction fun h' => h3 ⟨h, h'⟩))
    have GUARD3 : ∀ b : Bool, True := fun _ => trivial
    clear hal R1 O1 H1 hR GUARD3
    by_cases h0 : 0 < l.length
    · obtain ⟨b, hb⟩ : ∃ b, l[l.length - 1]? = some b := ⟨_, List.getElem?_eq_getElem (by omega)⟩
      have hb10 : b = 10 := by
        rcases unhide hend with h | h
        · rw [h] at h0; simp at h0
        · rw [last_at (List.length_pos_iff.1 h0) hb] at h; exact Option.some.inj h
      subst hb10
      have ix := idx_str (unhide hl') hb
      have ec : ((l.length - 1 : Nat) : Int) = (l.length : Int) - 1 := by omega
      rw [ec] at ix
      have gb : (((10 : UInt8).toNat : Int) != 10) = false := rfl
      have g3 : decide ((0 : Int) < l.length) = true := by simp; omega
      clear hb ec h3
      go_wp2
      clear ix h0 g3 gb
      go_loopw [7, 8, 9, 10, 11] (fun ou at_ li fr ii wr => ∃ (k f g c : Nat) (tr : List Kl) (en : Int), k ≤ l.length ∧ f ≤ k ∧ ii = .int .i64 k ∧ fr = .int .i64 f ∧ li = .int .i64 (tr.length : Int) ∧ at_ = .int .i64 en ∧ ou = .slice (some ⟨g, 0, none⟩) tr.length c ∧ Hid (readF n d dr (linesG ((l.take k).drop f) (l.drop k)) tr en = R) ∧ Hid (TrI tr en) ∧ Hid (Own wr (w.heap.size + 2) g tr.length c tr) ∧ Hid (wr.heap[w.heap.size]? = some (.cells #[.int .i64 n, .int .i64 d, .bool dr] 25 (0, 0))) ∧ Hid (wr.heap[w.heap.size + 1]? = some (.cells #[.int .i64 0, .int .i64 0] 31 (0, 0))) ∧ Hid (Below w.heap.size w wr)) (fun _ _ _ _ ii _ => l.length - (intOf ii).toNat)
      case atStart => exact ⟨0, 0, w1.heap.size, 0, [], 0, by omega, by omega, rfl, rfl, rfl, rfl, rfl, F0, hide TrI.zero, W2, R2, O2, H2⟩
      case round =>
        clear F0 W2 R2 O2 H2
        obtain ⟨k, f, g, c, tr, en, hk, hfk, rfl, rfl, rfl, rfl, rfl, hF, hT, hO, hR1, hO1, hw⟩ := hrel
        have hle : l.length = s.size := by omega
        by_cases hlt : k < l.length
        · have hki : (k : Int) < l.length := by omega
          obtain ⟨b, hb⟩ : ∃ b, l[k]? = some b := ⟨_, List.getElem?_eq_getElem hlt⟩
          have ix := idx_str (unhide hl') hb
          have hb' := hide hb
          by_cases hb10 : b = 10
          · subst hb10
            have gb : (((10 : UInt8).toNat : Int) != 10) = false := rfl
            have hF2 := unhide hF
            rw [linesG_end hb] at hF2
            obtain ⟨x, hx⟩ : ∃ x, lineO n d dr ((l.take k).drop f) tr en = x := ⟨_, rfl⟩
            have hx2 : Hid (lineO n d dr (s.extract f k).data.toList tr en = x) := hide (by rw [ext_str (unhide hl') hfk]; exact hx)
            have htl := (unhide hT).ok.1
            obtain ⟨en0, en1⟩ : 0 ≤ en ∧ en ≤ 10000000 := by
              have h1 := (unhide hT).at0
              have h2 := (unhide hT).ok
              have h3 := clen_nonneg h2.2.1
              have h4 := h2.2.2
              omega
            have hF2' := hide hF2
            have hx' := hide hx
            have hle' := hide hle
            clear hb hF hF2 hx hle
            go_wp2_with fail
            refine reg16 wr n d dr s w.heap.size g c f k tr en x (by omega) hfk (by omega) htl (blk3r (unhide hR1)) (unhide hT) (kls_own (unhide hO)) (unhide hx2) ?_
            intro y49 y50 y51 y52 y53 y54 y55 y56 y57 y58 y59 y60 y61 E w3 hb3 hE hc3
            obtain ⟨z0, z1, z2⟩ := hc3
            have R3 := hide ((hb3.block _ (lt_blkf (unhide hR1))).trans (unhide hR1))
            have O3 := hide ((hb3.block _ (lt_blkf (unhide hO1))).trans (unhide hO1))
            have T3 := hide (ownsRow_below (unhide hO) hb3)
            have H3 := hide (laterB (unhide hw) hb3)
            have hsw : w.heap.size + 1 < wr.heap.size := lt_blkf (unhide hO1)
            have hgw := own_lt (unhide hO)
            obtain ⟨x1, xs, xi, xn⟩ := x
            simp only at z0 z1 z2
            clear hb3 hR1 hO1 hO hw ix
            by_cases hc0 : x1 = 0
            · subst hc0
              have tc : ((0 : Int) != 0) = false := rfl
              have hst := (unhide hT).step (n := n) (d := d) (dr := dr) (l := (l.take k).drop f) (by rw [unhide hx'])
              have hF3 := unhide hF2'
              rw [readF_ok (by rw [unhide hx'])] at hF3
              rw [unhide hx'] at hst hF3
              simp only at hst hF3
              have hst' := hide hst
              have hF3' := hide hF3
              have hen2 : 0 ≤ en + xn ∧ en + xn ≤ 10000000 := by
                have h1 := hst.at0
                have h3 := clen_nonneg hst.ok.2.1
                have h4 := hst.ok.2.2
                omega
              obtain ⟨en2, en3⟩ := hen2
              have hsw3 : w.heap.size + 2 ≤ w3.heap.size := by have := lt_blkf (unhide O3); omega
              clear hst hF3 hF2'
              go_wp2_with (at_builtin; refine wpList_kE (X := w3) (B := w.heap.size + 2) (g := g) (n := tr.length) (cap := c) (L := tr) (E := E) (z := xn) rfl _ _ rfl rfl (unhide T3) rfl (by omega) hsw3 (by omega) z2 ?_)
              intro g' c' w' ho' hb3 z3
              have T4 := hide (own_cast (n' := (tr ++ [((xs, xi, xn) : Kl)]).length) (by simp) ho')
              have R4 := hide ((hb3.block _ (by omega)).trans (unhide R3))
              have O4 := hide ((hb3.block _ (by omega)).trans (unhide O3))
              have H4 := hide ((unhide H3).trans (hb3.mono (by omega)))
              clear ho' hb3 R3 O3 H3 T3 z0 z1 z2
              go_wp2
              go_roundw
              case rel => exact ⟨k + 1, k + 1, g', c', tr ++ [(xs, xi, xn)], en + xn, by omega, by omega, by go_num, by go_num, by simp, by go_num, by simp, hF3', hst', T4, R4, O4, H4⟩
              case measure => simp [intOf]; omega
            · have tc : (x1 != 0) = true := by simpa using hc0
              have hF3 := unhide hF2'
              rw [readF_no (by rw [unhide hx']; exact hc0), unhide hx'] at hF3
              simp only at hF3
              subst hF3
              obtain ⟨o0, o1, p0, p1⟩ := blk2f (unhide O3)
              have hlt3 := lt_blkf (unhide O3)
              clear hF2'
              go_wp2
              refine bodyPost_ret (v := .tuple #[.slice (some ⟨w3.heap.size, 0, none⟩) 0 0, .agg #[.int .i64 x1, .int .i64 (tr.length : Int)]]) (by simp [results, Tryz.results12, go_sem, o0, o1, hlt3]) rfl ⟨w3.heap.size, 0, rfl, (unhide H3).size, ?_, ?_⟩
              · exact lit2 (unhide H3).size
              · exact bel2 _ (unhide H3) (by omega)
          · have gb : ((b.toNat : Int) != 10) = true := by simp; intro h; exact hb10 (UInt8.toNat_inj.1 (by have : ((10 : UInt8).toNat : Nat) = 10 := rfl; omega))
            have hnew : Hid (readF n d dr (linesG ((l.take (k + 1)).drop f) (l.drop (k + 1))) tr en = R) := hide (by rw [← linesG_at hb hb10 hfk]; exact unhide hF)
            clear hb hF hle
            go_wp2
            go_roundw
            case rel => exact ⟨k + 1, f, g, c, tr, en, by omega, by omega, by go_num, rfl, rfl, rfl, rfl, hnew, hT, hO, hR1, hO1, hw⟩
            case measure => simp [intOf]; omega
        · have hke : k = l.length := by omega
          have hF2 := unhide hF
          rw [hke, List.drop_length] at hF2
          have hF3 : (tr, (0 : Int), (0 : Int)) = R := by rw [← hF2]; cases (List.take l.length l).drop f <;> rfl
          have hF4 := hide hF3
          clear hF3
          obtain ⟨o0, o1, p0, p1⟩ := blk2f (unhide hO1)
          have hki : ¬ ((k : Int) < l.length) := by omega
          clear hF hF2 hke hle
          go_wp2
          rw [← unhide hF4]
          refine bodyPost_ret (v := .tuple #[.slice (some ⟨g, 0, none⟩) tr.length c, .agg #[.int .i64 0, .int .i64 0]]) (by simp [results, Tryz.results12, go_sem, o0, o1]) rfl ⟨g, c, rfl, ?_, ?_, ?_⟩
          · have := own_ge (unhide hO); omega
          · exact own_set2 (b := w.heap.size + 1) (own_up2 (unhide hO) (by omega)) (by have := own_ge (unhide hO); omega)
          · exact bel2s (unhide hw) (by omega)
    · have g3 : decide ((0 : Int) < l.length) = false := decide_eq_false (by omega)
      clear h3
      go_wp2
      clear h0 g3
      go_loopw [7, 8, 9, 10, 11] (fun ou at_ li fr ii wr => ∃ (k f g c : Nat) (tr : List Kl) (en : Int), k ≤ l.length ∧ f ≤ k ∧ ii = .int .i64 k ∧ fr = .int .i64 f ∧ li = .int .i64 (tr.length : Int) ∧ at_ = .int .i64 en ∧ ou = .slice (some ⟨g, 0, none⟩) tr.length c ∧ Hid (readF n d dr (linesG ((l.take k).drop f) (l.drop k)) tr en = R) ∧ Hid (TrI tr en) ∧ Hid (Own wr (w.heap.size + 2) g tr.length c tr) ∧ Hid (wr.heap[w.heap.size]? = some (.cells #[.int .i64 n, .int .i64 d, .bool dr] 25 (0, 0))) ∧ Hid (wr.heap[w.heap.size + 1]? = some (.cells #[.int .i64 0, .int .i64 0] 31 (0, 0))) ∧ Hid (Below w.heap.size w wr)) (fun _ _ _ _ ii _ => l.length - (intOf ii).toNat)
      case atStart => exact ⟨0, 0, w1.heap.size, 0, [], 0, by omega, by omega, rfl, rfl, rfl, rfl, rfl, F0, hide TrI.zero, W2, R2, O2, H2⟩
      case round =>
        clear F0 W2 R2 O2 H2
        obtain ⟨k, f, g, c, tr, en, hk, hfk, rfl, rfl, rfl, rfl, rfl, hF, hT, hO, hR1, hO1, hw⟩ := hrel
        have hle : l.length = s.size := by omega
        by_cases hlt : k < l.length
        · have hki : (k : Int) < l.length := by omega
          obtain ⟨b, hb⟩ : ∃ b, l[k]? = some b := ⟨_, List.getElem?_eq_getElem hlt⟩
          have ix := idx_str (unhide hl') hb
          have hb' := hide hb
          by_cases hb10 : b = 10
          · subst hb10
            have gb : (((10 : UInt8).toNat : Int) != 10) = false := rfl
            have hF2 := unhide hF
            rw [linesG_end hb] at hF2
            obtain ⟨x, hx⟩ : ∃ x, lineO n d dr ((l.take k).drop f) tr en = x := ⟨_, rfl⟩
            have hx2 : Hid (lineO n d dr (s.extract f k).data.toList tr en = x) := hide (by rw [ext_str (unhide hl') hfk]; exact hx)
            have htl := (unhide hT).ok.1
            obtain ⟨en0, en1⟩ : 0 ≤ en ∧ en ≤ 10000000 := by
              have h1 := (unhide hT).at0
              have h2 := (unhide hT).ok
              have h3 := clen_nonneg h2.2.1
              have h4 := h2.2.2
              omega
            have hF2' := hide hF2
            have hx' := hide hx
            have hle' := hide hle
            clear hb hF hF2 hx hle
            go_wp2_with fail
            refine reg16 wr n d dr s w.heap.size g c f k tr en x (by omega) hfk (by omega) htl (blk3r (unhide hR1)) (unhide hT) (kls_own (unhide hO)) (unhide hx2) ?_
            intro y49 y50 y51 y52 y53 y54 y55 y56 y57 y58 y59 y60 y61 E w3 hb3 hE hc3
            obtain ⟨z0, z1, z2⟩ := hc3
            have R3 := hide ((hb3.block _ (lt_blkf (unhide hR1))).trans (unhide hR1))
            have O3 := hide ((hb3.block _ (lt_blkf (unhide hO1))).trans (unhide hO1))
            have T3 := hide (ownsRow_below (unhide hO) hb3)
            have H3 := hide (laterB (unhide hw) hb3)
            have hsw : w.heap.size + 1 < wr.heap.size := lt_blkf (unhide hO1)
            have hgw := own_lt (unhide hO)
            obtain ⟨x1, xs, xi, xn⟩ := x
            simp only at z0 z1 z2
            clear hb3 hR1 hO1 hO hw ix
            by_cases hc0 : x1 = 0
            · subst hc0
              have tc : ((0 : Int) != 0) = false := rfl
              have hst := (unhide hT).step (n := n) (d := d) (dr := dr) (l := (l.take k).drop f) (by rw [unhide hx'])
              have hF3 := unhide hF2'
              rw [readF_ok (by rw [unhide hx'])] at hF3
              rw [unhide hx'] at hst hF3
              simp only at hst hF3
              have hst' := hide hst
              have hF3' := hide hF3
              have hen2 : 0 ≤ en + xn ∧ en + xn ≤ 10000000 := by
                have h1 := hst.at0
                have h3 := clen_nonneg hst.ok.2.1
                have h4 := hst.ok.2.2
                omega
              obtain ⟨en2, en3⟩ := hen2
              have hsw3 : w.heap.size + 2 ≤ w3.heap.size := by have := lt_blkf (unhide O3); omega
              clear hst hF3 hF2'
              go_wp2_with (at_builtin; refine wpList_kE (X := w3) (B := w.heap.size + 2) (g := g) (n := tr.length) (cap := c) (L := tr) (E := E) (z := xn) rfl _ _ rfl rfl (unhide T3) rfl (by omega) hsw3 (by omega) z2 ?_)
              intro g' c' w' ho' hb3 z3
              have T4 := hide (own_cast (n' := (tr ++ [((xs, xi, xn) : Kl)]).length) (by simp) ho')
              have R4 := hide ((hb3.block _ (by omega)).trans (unhide R3))
              have O4 := hide ((hb3.block _ (by omega)).trans (unhide O3))
              have H4 := hide ((unhide H3).trans (hb3.mono (by omega)))
              clear ho' hb3 R3 O3 H3 T3 z0 z1 z2
              go_wp2
              go_roundw
              case rel => exact ⟨k + 1, k + 1, g', c', tr ++ [(xs, xi, xn)], en + xn, by omega, by omega, by go_num, by go_num, by simp, by go_num, by simp, hF3', hst', T4, R4, O4, H4⟩
              case measure => simp [intOf]; omega
            · have tc : (x1 != 0) = true := by simpa using hc0
              have hF3 := unhide hF2'
              rw [readF_no (by rw [unhide hx']; exact hc0), unhide hx'] at hF3
              simp only at hF3
              subst hF3
              obtain ⟨o0, o1, p0, p1⟩ := blk2f (unhide O3)
              have hlt3 := lt_blkf (unhide O3)
              clear hF2'
              go_wp2
              refine bodyPost_ret (v := .tuple #[.slice (some ⟨w3.heap.size, 0, none⟩) 0 0, .agg #[.int .i64 x1, .int .i64 (tr.length : Int)]]) (by simp [results, Tryz.results12, go_sem, o0, o1, hlt3]) rfl ⟨w3.heap.size, 0, rfl, (unhide H3).size, ?_, ?_⟩
              · exact lit2 (unhide H3).size
              · exact bel2 _ (unhide H3) (by omega)
          · have gb : ((b.toNat : Int) != 10) = true := by simp; intro h; exact hb10 (UInt8.toNat_inj.1 (by have : ((10 : UInt8).toNat : Nat) = 10 := rfl; omega))
            have hnew : Hid (readF n d dr (linesG ((l.take (k + 1)).drop f) (l.drop (k + 1))) tr en = R) := hide (by rw [← linesG_at hb hb10 hfk]; exact unhide hF)
            clear hb hF hle
            go_wp2
            go_roundw
            case rel => exact ⟨k + 1, f, g, c, tr, en, by omega, by omega, by go_num, rfl, rfl, rfl, rfl, hnew, hT, hO, hR1, hO1, hw⟩
            case measure => simp [intOf]; omega
        · have hke : k = l.length := by omega
          have hF2 := unhide hF
          rw [hke, List.drop_length] at hF2
          have hF3 : (tr, (0 : Int), (0 : Int)) = R := by rw [← hF2]; cases (List.take l.length l).drop f <;> rfl
          have hF4 := hide hF3
          clear hF3
          obtain ⟨o0, o1, p0, p1⟩ := blk2f (unhide hO1)
          have hki : ¬ ((k : Int) < l.length) := by omega
          clear hF hF2 hke hle
          go_wp2
          rw [← unhide hF4]
          refine bodyPost_ret (v := .tuple #[.slice (some ⟨g, 0, none⟩) tr.length c, .agg #[.int .i64 0, .int .i64 0]]) (by simp [results, Tryz.results12, go_sem, o0, o1]) rfl ⟨g, c, rfl, ?_, ?_, ?_⟩
          · have := own_ge (unhide hO); omega
          · exact own_set2 (b := w.heap.size + 1) (own_up2 (unhide hO) (by omega)) (by have := own_ge (unhide hO); omega)
          · exact bel2s (unhide hw) (by omega)
  · have hr0 : Pl.rok n d dr = false := by simpa using hr
    rw [rd_1 hr0]
    have hrk := hide hr0
    clear hr hr0
    go_enter Tryz.func12, Tryz.ntmps12
    go_wp2_with fail
    refine (srok_any n d dr _).mono ?_
    rintro e w1 ⟨rfl, hb1⟩
    have R1 := hide ((hb1.block _ (by simp; omega)).trans (unhide B0))
    have O1 := hide ((hb1.block _ (by simp)).trans (unhide B1))
    have H1 := hide (laterB (unhide H0) hb1)
    clear hb1 B0 B1 H0
    rw [unhide hrk]
    obtain ⟨o0, o1, p0, p1⟩ := blk2f (unhide O1)
    have hlt := lt_blkf (unhide O1)
    have hne : ¬ (w.heap.size + 1 = w1.heap.size) := by omega
    go_wp2
    skip
    refine bodyPost_ret (v := .tuple #[.slice (some ⟨w1.heap.size, 0, none⟩) 0 0, .agg #[.int .i64 1, .int .i64 0]]) (by simp [results, Tryz.results12, go_sem, o0, o1, hlt]) rfl ⟨w1.heap.size, 0, rfl, (unhide H1).size, ?_, ?_⟩
    · exact lit2 (unhide H1).size
    · exact bel2 _ (unhide H1) (by omega)
end Go.Proofs.YtfhbmfndjbdhcaaGreatDoor
