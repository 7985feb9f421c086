/-
  The draw of names and bodies; nothing that was there is written but the cursor.
-/
import Derived.Test.YtcgdcabmjihijaaDrS
import Derived.Test.YtcgdcabmjihijaaSp
namespace Go.Proofs.Ytcgdcabmjihijaa
open Go.RowKit
open Go.Proofs.Ytcgdcabmjihijaa.Bb (Tks)
set_option linter.unusedVariables false
set_option linter.unusedSimpArgs false

theorem row_type {w : World} {B g n cap m : Nat} {e : TypeId} {xs : List Value} (h : w.ownsRow B e m (.slice (some ⟨g, 0, none⟩) n cap) n xs) : ∃ cur, w.heap[g]? = some (.cells cur e (0, 0)) := by
  rcases h.2 with ⟨hv, _⟩ | ⟨g', cap', cur, hv, hB, hh, _⟩
  · cases hv
  · injection hv with e1
    injection e1 with e1
    injection e1 with e1
    subst e1
    exact ⟨cur, hh⟩
theorem ne_type {w : World} {B B' g g' n n' cap cap' m m' : Nat} {e e' : TypeId} {xs xs' : List Value} (h : w.ownsRow B e m (.slice (some ⟨g, 0, none⟩) n cap) n xs) (h' : w.ownsRow B' e' m' (.slice (some ⟨g', 0, none⟩) n' cap') n' xs') (hne : e ≠ e') : g ≠ g' := by
  intro eg
  subst eg
  obtain ⟨c, h1⟩ := row_type h
  obtain ⟨c', h2⟩ := row_type h'
  rw [h1] at h2
  injection h2 with h2
  injection h2 with _ h2
  exact hne h2
/-- a row of bodies -/
def Rw (wr : World) (lo : Nat) (vs : List Value) (ts : List (List Int)) : Prop := ∀ (j : Nat) (t : List Int), ts[j]? = some t → ∃ G cc, vs[j]? = some (.slice (some ⟨G, 0, none⟩) t.length cc) ∧ OwnB wr lo G t.length cc t ∧ Byt t ∧ t.length ≤ 40001
theorem Rw.kept {wr w1 : World} {lo h : Nat} {vs : List Value} {ts : List (List Int)} (hr : Rw wr lo vs ts) (hg : wr.grownBy w1 (some h)) (hne : ∀ (G n c : Nat) (t : List Int), OwnB wr lo G n c t → G ≠ h) : Rw w1 lo vs ts := fun j t ht => by
  obtain ⟨G, cc, h1, h2, h3, h4⟩ := hr j t ht
  exact ⟨G, cc, h1, own_kept h2 hg (hne _ _ _ _ h2), h3, h4⟩
theorem Rw.later {wr w1 : World} {lo : Nat} {vs : List Value} {ts : List (List Int)} (hr : Rw wr lo vs ts) (hb : Below wr.heap.size wr w1) : Rw w1 lo vs ts := fun j t ht => by
  obtain ⟨G, cc, h1, h2, h3, h4⟩ := hr j t ht
  exact ⟨G, cc, h1, ownsRow_below h2 hb, h3, h4⟩
abbrev OwnV (w : World) (B g n cap : Nat) (vs : List Value) : Prop := w.ownsRow B 22 1 (.slice (some ⟨g, 0, none⟩) n cap) n vs
/-- the state of the draw -/
structure NS (w : World) (B g : Nat) (a : Option Addr) (len cap : Nat) (wr : World) (gn n cn : Nat) (A : List ByteArray) (gb m cb : Nat) (vs : List Value) (ts : List (List Int)) : Prop where
  ds : DS w B g a len cap wr
  on : OwnS wr w.heap.size gn n cn A
  ob : OwnV wr w.heap.size gb m cb vs
  len : ts.length = m
  rows : Rw wr w.heap.size vs ts
  nms : ∀ s ∈ A, s.size ≤ 7
section
variable {w wr w1 : World} {B g : Nat} {a : Option Addr} {len cap gn n cn gb m cb : Nat} {A : List ByteArray} {vs : List Value} {ts : List (List Int)}
theorem NS.step (h : NS w B g a len cap wr gn n cn A gb m cb vs ts) (hB : B ≤ g) (hg : g < w.heap.size) (hc : CurAt w1 g a len cap) (hgr : wr.grownBy w1 (some g)) : NS w B g a len cap w1 gn n cn A gb m cb vs ts :=
  ⟨h.ds.step hB hc hgr, own_kept h.on hgr (by have := own_ge h.on; omega), own_kept h.ob hgr (by have := own_ge h.ob; omega), h.len, h.rows.kept hgr (fun G n c t ho => by have := own_ge ho; omega), h.nms⟩
theorem NS.later (h : NS w B g a len cap wr gn n cn A gb m cb vs ts) (hB : B ≤ g) (hb : Below wr.heap.size wr w1) : NS w B g a len cap w1 gn n cn A gb m cb vs ts :=
  ⟨h.ds.later hB hb, ownsRow_below h.on hb, ownsRow_below h.ob hb, h.len, h.rows.later hb, h.nms⟩
theorem NS.appN {gn' cn' : Nat} {s : ByteArray} (h : NS w B g a len cap wr gn n cn A gb m cb vs ts) (hBw : B ≤ w.heap.size) (hg : g < w.heap.size) (ho : OwnS w1 w.heap.size gn' (n + 1) cn' (A ++ [s])) (hgr : wr.grownBy w1 (some gn)) (hs : s.size ≤ 7) : NS w B g a len cap w1 gn' (n + 1) cn' (A ++ [s]) gb m cb vs ts :=
  have hb : Below w.heap.size wr w1 := (Below.refl _ _).grown hgr (h.ds.gr.size) (fun k hk => by injection hk with hk; subst hk; exact own_ge h.on)
  ⟨h.ds.app hBw hg hb, ho, own_kept h.ob hgr (ne_type h.ob h.on (by decide)), h.len, h.rows.kept hgr (fun G n c t ho => ne_type ho h.on (by decide)), fun x hx => by
    rcases List.mem_append.1 hx with hx | hx
    · exact h.nms x hx
    · simp at hx; subst hx; exact hs⟩
theorem NS.appB {gb' cb' G cc : Nat} {t : List Int} (h : NS w B g a len cap wr gn n cn A gb m cb vs ts) (hBw : B ≤ w.heap.size) (hg : g < w.heap.size) (ho : OwnV w1 w.heap.size gb' (m + 1) cb' (vs ++ [.slice (some ⟨G, 0, none⟩) t.length cc])) (hgr : wr.grownBy w1 (some gb)) (ht : OwnB wr w.heap.size G t.length cc t) (hy : Byt t) (hl : t.length ≤ 40001) : NS w B g a len cap w1 gn n cn A gb' (m + 1) cb' (vs ++ [.slice (some ⟨G, 0, none⟩) t.length cc]) (ts ++ [t]) :=
  have hb : Below w.heap.size wr w1 := (Below.refl _ _).grown hgr (h.ds.gr.size) (fun k hk => by injection hk with hk; subst hk; exact own_ge h.ob)
  have hvl : vs.length = m := by have := h.ob.1; simpa using this
  ⟨h.ds.app hBw hg hb, own_kept h.on hgr (ne_type h.on h.ob (by decide)), ho, by simp [h.len], fun j u hu => by
    by_cases e : j < ts.length
    · rw [List.getElem?_append_left e] at hu
      obtain ⟨G', c', h1, h2, h3, h4⟩ := h.rows j u hu
      exact ⟨G', c', by rw [List.getElem?_append_left (by have := h.len; omega)]; exact h1, own_kept h2 hgr (ne_type h2 h.ob (by decide)), h3, h4⟩
    · rw [List.getElem?_append_right (by omega)] at hu
      have : j - ts.length = 0 := by have := (List.getElem?_eq_some_iff.1 hu).1; simp at this; omega
      rw [this] at hu
      simp at hu
      subst hu
      refine ⟨G, cc, ?_, own_kept ht hgr (ne_type ht h.ob (by decide)), hy, hl⟩
      have e2 : j = vs.length := by have := h.len; omega
      rw [e2]; simp, h.nms⟩
theorem NS.tks (h : NS w B g a len cap wr gn n cn A gb m cb vs ts) : Tks wr (some ⟨gb, 0, none⟩) ts := fun j t ht => by
  obtain ⟨G, cc, h1, h2, h3, h4⟩ := h.rows j t ht
  refine ⟨gb, 0, some ⟨G, 0, none⟩, cc, rfl, own_lt h.ob, ?_, bys_own h2, by unfold maxLen; omega⟩
  rw [Nat.zero_add]
  have hj : j < vs.length := (List.getElem?_eq_some_iff.1 h1).1
  have := h.ob.cellAt j (by have := h.ob.1; omega)
  rw [this]; exact h1
theorem NS.byt (h : NS w B g a len cap wr gn n cn A gb m cb vs ts) : ∀ t ∈ ts, Byt t := fun t ht => by
  obtain ⟨j, hj⟩ := List.getElem?_of_mem ht
  obtain ⟨G, cc, h1, h2, h3, h4⟩ := h.rows j t hj
  exact h3
theorem NS.size (h : NS w B g a len cap wr gn n cn A gb m cb vs ts) : w.heap.size ≤ wr.heap.size := h.ds.gr.size
end
theorem infoV : (Try.prog.info? 22).map (fun i => (i.zero, i.size, i.bytes)) = some (some (.slice none 0 0), 1, 24) := by kernel_rfl
theorem wpList_tG {ops : Array Oper} {rest : List Oper} {o : Oper} {a : Act} {Q : Exit → Act → World → Prop} (w : World) (hgd : o.guard = none) (s x : Operand) (ho : o.op = .call { callee := .builtin .append, args := #[s, x], argTypes := #[47, 47] })
    (B g n cap : Nat) (L : List Value) (G N C : Nat) (hs : a.eval s = .slice (some ⟨g, 0, none⟩) n cap) (hown : OwnV w B g n cap L) (hx : a.eval x = .slice (some ⟨w.heap.size, 0, none⟩) 1 1)
    (hl : n ≤ 1000000) (hB : B ≤ w.heap.size)
    (h : ∀ g' cap' w', OwnV w' B g' (n + 1) cap' (L ++ [.slice (some ⟨G, 0, none⟩) N C]) → w.grownBy w' (some g) → B ≤ g' → (g' = g ∨ w.heap.size ≤ g') → wpList Try.prog ops Q rest (a.put o.dst (.slice (some ⟨g', 0, none⟩) (n + 1) cap')) w') : wpList Try.prog ops Q (o :: rest) a (w.alloc (.cells #[.slice (some ⟨G, 0, none⟩) N C] 22)) := by
  obtain ⟨i0, hi, hz0, hz1, hz2⟩ := info_parts infoV
  have hb : Below w.heap.size w (w.alloc (.cells #[.slice (some ⟨G, 0, none⟩) N C] 22)) := (Below.refl _ _).alloc (Nat.le_refl _) _
  have hblk : (w.alloc (.cells #[.slice (some ⟨G, 0, none⟩) N C] 22)).heap[w.heap.size]? = some (.cells #[.slice (some ⟨G, 0, none⟩) N C] 22 (0, 0)) := heap_alloc_new w _
  have hnews : ∀ (j : Nat) (u : Value), [Value.slice (some ⟨G, 0, none⟩) N C][j]? = some u → (w.alloc (.cells #[.slice (some ⟨G, 0, none⟩) N C] 22)).cell? ((⟨w.heap.size, 0, none⟩ : Addr).add j) = some u := by
    have := World.news_of_block hblk
    simpa using this
  have hsz := hb.size
  generalize w.alloc (.cells #[.slice (some ⟨G, 0, none⟩) N C] 22) = W at *
  have hown2 := ownsRow_below hown hb
  have hBg : B ≤ g := (hown.lt g rfl).1
  refine wpList_append_lies W hgd s x 47 ho B 22 i0 (.slice none 0 0) 1 24 Try.underlying47 hi hz0 hz1 hz2 rfl (by decide) _ n L hs hown2 ⟨w.heap.size, 0, none⟩ 1 1 [.slice (some ⟨G, 0, none⟩) N C] hx rfl hnews (by intro u hu; simp at hu; subst hu; rfl) (by decide) (by unfold maxLen; omega) (by omega) (by omega) W.heap.size rfl ?_
  intro g' cap' w' h1 h2 h3 h4
  refine h g' cap' w' h1 ?_ (own_ge h1) ?_
  · exact grown_trans ⟨hb.os, hb.tape, hb.output, hb.size, fun j hj _ => hb.block j hj⟩ h2
  · rcases h3 with h3 | h3
    · simp [Value.ownBlock] at h3; exact .inl h3.symm
    · exact .inr (by omega)
theorem ownV_lit0 (w : World) {B : Nat} (hB : B ≤ w.heap.size) : OwnV (w.alloc (.cells #[] 22)) B w.heap.size 0 0 [] := by
  have h := World.ownsRow_lit (base := B) (e := 22) (size := 1) w #[] 0 hB (by unfold maxLen; omega) rfl
  exact h
theorem lit_at8 {w : World} {T : TypeId} {a0 a1 a2 a3 a4 a5 a6 a7 : ByteArray} (h : ∀ s ∈ [a0, a1, a2, a3, a4, a5, a6, a7], s.size ≤ 7) (k : Nat) (hk : k < 8) : ∃ v : ByteArray, v.size ≤ 7 ∧ (w.alloc (.cells #[.string a0, .string a1, .string a2, .string a3, .string a4, .string a5, .string a6, .string a7] T)).cell? ⟨w.heap.size, k, none⟩ = some (.string v) := by
  have hc : k = 0 ∨ k = 1 ∨ k = 2 ∨ k = 3 ∨ k = 4 ∨ k = 5 ∨ k = 6 ∨ k = 7 := by omega
  rcases hc with rfl | rfl | rfl | rfl | rfl | rfl | rfl | rfl
  · exact ⟨a0, h _ (by simp), by simp [go_sem]⟩
  · exact ⟨a1, h _ (by simp), by simp [go_sem]⟩
  · exact ⟨a2, h _ (by simp), by simp [go_sem]⟩
  · exact ⟨a3, h _ (by simp), by simp [go_sem]⟩
  · exact ⟨a4, h _ (by simp), by simp [go_sem]⟩
  · exact ⟨a5, h _ (by simp), by simp [go_sem]⟩
  · exact ⟨a6, h _ (by simp), by simp [go_sem]⟩
  · exact ⟨a7, h _ (by simp), by simp [go_sem]⟩
/-- names and bodies are drawn -/
def AnD (w : World) (B g : Nat) (a : Option Addr) (len cap : Nat) (e : Ending) (w' : World) : Prop := ∃ gn n cn A gb cb vs ts, e = .returned (.tuple #[.slice (some ⟨gn, 0, none⟩) n cn, .slice (some ⟨gb, 0, none⟩) n cb]) ∧ n ≤ 6 ∧ NS w B g a len cap w' gn n cn A gb n cb vs ts
theorem ns_new {w : World} {B g : Nat} {a : Option Addr} {len cap : Nat} (hB : B ≤ g) (hc : CurAt w g a len cap) (hr : RdB w B a len) : NS w B g a len cap ((w.alloc (.cells #[] 9)).alloc (.cells #[] 22)) w.heap.size 0 0 [] (w.heap.size + 1) 0 0 [] [] := by
  have b1 : Below w.heap.size w (w.alloc (.cells #[] 9)) := (Below.refl _ _).alloc (Nat.le_refl _) _
  have b2 : Below (w.alloc (.cells #[] 9)).heap.size (w.alloc (.cells #[] 9)) ((w.alloc (.cells #[] 9)).alloc (.cells #[] 22)) := (Below.refl _ _).alloc (Nat.le_refl _) _
  have o1 := ownsRow_below (ownS_lit0 w (Nat.le_refl w.heap.size)) b2
  have o2 := ownV_lit0 (w.alloc (.cells #[] 9)) (B := w.heap.size) b1.size
  have e : (w.alloc (.cells #[] 9)).heap.size = w.heap.size + 1 := by simp
  rw [e] at o2
  have D : DS w B g a len cap w := ⟨hc, hr, grown_refl _ _⟩
  exact ⟨(D.later hB b1).later hB b2, o1, o2, rfl, fun j t h => by simp at h, fun s h => by simp at h⟩

set_option maxRecDepth 100000 in
set_option maxHeartbeats 3200000 in
theorem dnm_any (B g : Nat) (a : Option Addr) (len cap : Nat) (w : World) (hB : B ≤ g) (hBw : B ≤ w.heap.size) (hl : len ≤ 9223372036854775807) (hc : CurAt w g a len cap) (hr : RdB w B a len) :
    Calls Try.prog 20 #[.pointer (some ⟨g, 0, none⟩)] w (AnD w B g a len cap) := by
  have hgl := hc.lt
  have N0 := hide (ns_new hB hc hr)
  clear hc hr
  go_enter Try.func20, Try.ntmps20
  go_wp2_with fail
  generalize (w.alloc (.cells #[] 9)).alloc (.cells #[] 22) = X at *
  refine (below_any B g a len cap 6 _ hB hl (unhide N0).ds.cur (unhide N0).ds.rd (by omega)).mono ?_
  rintro e w1 ⟨x, rfl, x0, x1, k1, g1⟩
  obtain ⟨N, rfl⟩ := Int.eq_ofNat_of_zero_le x0
  have N1 := hide ((unhide N0).step hB hgl k1 g1)
  clear k1 g1 N0
  go_wp2
  go_loopw [4, 5, 6] (fun u v t wr => ∃ (k n gn cn gb cb : Nat) (A : List ByteArray) (vs : List Value) (ts : List (List Int)), k + n ≤ 6 ∧ t = .int .i64 k ∧ u = .slice (some ⟨gn, 0, none⟩) n cn ∧ v = .slice (some ⟨gb, 0, none⟩) n cb ∧ Hid (NS w B g a len cap wr gn n cn A gb n cb vs ts)) (fun _ _ t _ => (intOf t).toNat)
  case atStart => exact ⟨N, 0, w.heap.size, 0, w.heap.size + 1, 0, [], [], [], by omega, rfl, rfl, rfl, N1⟩
  case round =>
    clear N1
    obtain ⟨k, n, gn, cn, gb, cb, A, vs, ts, hkn, rfl, rfl, rfl, S⟩ := hrel
    by_cases hlt : 0 < k
    rotate_left
    · have gg : decide ((0 : Int) < k) = false := by simp; omega
      have ggn : decide (0 < k) = false := by simp; omega
      go_wp2
      go_ret2
      exact ⟨gn, n, cn, A, gb, cb, vs, ts, rfl, by omega, unhide S⟩
    have gg : decide ((0 : Int) < k) = true := by simp; omega
    have ggn : decide (0 < k) = true := by simp; omega
    have hla := hide (fun q hq => lit_at8 (w := wr) (T := 9) (a0 := ⟨#[114, 101, 101, 108]⟩) (a1 := ⟨#[97]⟩) (a2 := ⟨#[98, 95, 49]⟩) (a3 := ⟨#[77, 73, 88, 46, 119, 97, 118]⟩) (a4 := ⟨#[114, 101, 101, 108, 49]⟩) (a5 := ⟨#[90]⟩) (a6 := ⟨#[115, 117, 98, 46, 116, 120, 116]⟩) (a7 := ⟨#[48]⟩) (by decide) q hq)
    have S1 := hide ((unhide S).later hB ((Below.refl wr.heap.size wr).alloc (Nat.le_refl _) (.cells #[.string ⟨#[114, 101, 101, 108]⟩, .string ⟨#[97]⟩, .string ⟨#[98, 95, 49]⟩, .string ⟨#[77, 73, 88, 46, 119, 97, 118]⟩, .string ⟨#[114, 101, 101, 108, 49]⟩, .string ⟨#[90]⟩, .string ⟨#[115, 117, 98, 46, 116, 120, 116]⟩, .string ⟨#[48]⟩] 9)))
    have hsz := (unhide S).size
    clear S
    go_wp2_with fail
    generalize wr.alloc _ = Y at *
    refine (below_any B g a len cap 8 _ hB hl (unhide S1).ds.cur (unhide S1).ds.rd (by omega)).mono ?_
    rintro e w2 ⟨x, rfl, x0, x1, k1, g1⟩
    obtain ⟨q, rfl⟩ := Int.eq_ofNat_of_zero_le x0
    obtain ⟨s, hs7, hv⟩ := unhide hla q (by omega)
    have hv1 := grown_cell g1 (by omega) hv
    have S2 := hide ((unhide S1).step hB hgl k1 g1)
    clear hv k1 g1 S1 hla
    go_wp2
    go_loop [8, 9] (fun u t => ∃ (v : Bool) (j : Nat), j ≤ n ∧ u = .bool v ∧ t = .int .i64 j) (fun _ t => n - (intOf t).toNat)
    case atStart => exact ⟨false, 0, by omega, rfl, rfl⟩
    case round =>
      obtain ⟨v, j, hjn, rfl, rfl⟩ := hrel
      by_cases hlj : j < n
      · have g2 : decide ((j : Int) < n) = true := by simp; omega
        have hAl := ownS_len (unhide S2).on
        obtain ⟨r, hr⟩ : ∃ r, A[j]? = some r := ⟨A[j]'(by omega), List.getElem?_eq_getElem _⟩
        have c0 := ownS_at hr (unhide S2).on
        clear hr hAl
        cases v with
        | true =>
          go_wp2
          go_round
          case rel => exact ⟨true, j + 1, by omega, rfl, by go_num⟩
          case measure => simp [intOf]; omega
        | false =>
          go_wp2
          go_round
          case rel => exact ⟨_, j + 1, by omega, rfl, by go_num⟩
          case measure => simp [intOf]; omega
      · have g2 : decide ((j : Int) < n) = false := by simp; omega
        cases v with
        | false =>
          go_wp2_with (with_reducible refine wpList_sG w2 rfl _ _ rfl w.heap.size gn n cn A s rfl (unhide S2).on rfl (by omega) (unhide S2).size ?_)
          intro g' c' w' o' b' q1 q2
          have S5 := hide ((unhide S2).appN hBw hgl o' b' hs7)
          clear o' b' q1 q2 S2
          go_wp2_with fail
          refine (dbody_any B g a len cap _ hB (Nat.le_trans hBw (unhide S5).size) hl (unhide S5).ds.cur (unhide S5).ds.rd).mono ?_
          rintro e w6 ⟨G, cc, t, rfl, oT, yT, lT, D⟩
          have S6 := hide ((unhide S5).step hB hgl D.cur D.gr)
          have oT := hide (own_mono oT (unhide S5).size)
          have yT := hide yT
          clear D S5
          go_wp2_with (with_reducible refine wpList_tG w6 rfl _ _ rfl w.heap.size gb n cb vs G t.length cc rfl (unhide S6).ob rfl (by omega) (unhide S6).size ?_)
          intro g6 c6 w7 o6 b6 q3 q4
          have S7 := hide ((unhide S6).appB hBw hgl o6 b6 (unhide oT) (unhide yT) lT)
          clear o6 b6 q3 q4 S6 oT yT
          go_wp2
          go_roundw
          case rel => exact ⟨k - 1, n + 1, g', c', g6, c6, _, _, _, by omega, by go_num, by go_num, by go_num, S7⟩
          case measure => simp [intOf]; omega
        | true =>
          go_wp2_with fail
          refine (once_any B g a len cap 20 _ hB hl (unhide S2).ds.cur (unhide S2).ds.rd (by omega)).mono ?_
          rintro e w3 ⟨v, rfl, k1, g1⟩
          have S3 := hide ((unhide S2).step hB hgl k1 g1)
          clear k1 g1 S2
          cases v with
          | false =>
            go_wp2
            go_roundw
            case rel => exact ⟨k - 1, n, gn, cn, gb, cb, _, _, _, by omega, by go_num, rfl, rfl, S3⟩
            case measure => simp [intOf]; omega
          | true =>
            go_wp2_with (with_reducible refine wpList_sG w3 rfl _ _ rfl w.heap.size gn n cn A s rfl (unhide S3).on rfl (by omega) (unhide S3).size ?_)
            intro g' c' w' o' b' q1 q2
            have S5 := hide ((unhide S3).appN hBw hgl o' b' hs7)
            clear o' b' q1 q2 S3
            go_wp2_with fail
            refine (dbody_any B g a len cap _ hB (Nat.le_trans hBw (unhide S5).size) hl (unhide S5).ds.cur (unhide S5).ds.rd).mono ?_
            rintro e w6 ⟨G, cc, t, rfl, oT, yT, lT, D⟩
            have S6 := hide ((unhide S5).step hB hgl D.cur D.gr)
            have oT := hide (own_mono oT (unhide S5).size)
            have yT := hide yT
            clear D S5
            go_wp2_with (with_reducible refine wpList_tG w6 rfl _ _ rfl w.heap.size gb n cb vs G t.length cc rfl (unhide S6).ob rfl (by omega) (unhide S6).size ?_)
            intro g6 c6 w7 o6 b6 q3 q4
            have S7 := hide ((unhide S6).appB hBw hgl o6 b6 (unhide oT) (unhide yT) lT)
            clear o6 b6 q3 q4 S6 oT yT
            go_wp2
            go_roundw
            case rel => exact ⟨k - 1, n + 1, g', c', g6, c6, _, _, _, by omega, by go_num, by go_num, by go_num, S7⟩
            case measure => simp [intOf]; omega

end Go.Proofs.Ytcgdcabmjihijaa
