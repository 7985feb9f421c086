/-
  The draws of packages; nothing that was there is written but the cursor.
-/
import Derived.Test.YtcgdcabmjihijaaDrN
import Derived.Test.YtcgdcabmjihijaaWd
namespace Go.Proofs.Ytcgdcabmjihijaa
open Go.RowKit
open Go.Proofs.Ytcgdcabmjihijaa.Bb (Tks)
set_option linter.unusedVariables false
set_option linter.unusedSimpArgs false

/-- the cursor, and a package of the call's own -/
structure KS (w : World) (B g : Nat) (a : Option Addr) (len cap : Nat) (wr : World) (gl n c : Nat) (L : List Kl) : Prop where
  ds : DS w B g a len cap wr
  ow : Own wr w.heap.size gl n c L
  sz : ∀ x ∈ L, x.1.size ≤ 41
section
variable {w wr w1 : World} {B g : Nat} {a : Option Addr} {len cap gl n c : Nat} {L : List Kl}
theorem KS.step (h : KS w B g a len cap wr gl n c L) (hB : B ≤ g) (hg : g < w.heap.size) (hc : CurAt w1 g a len cap) (hgr : wr.grownBy w1 (some g)) : KS w B g a len cap w1 gl n c L :=
  ⟨h.ds.step hB hc hgr, own_kept h.ow hgr (by have := own_ge h.ow; omega), h.sz⟩
theorem KS.later (h : KS w B g a len cap wr gl n c L) (hB : B ≤ g) (hb : Below wr.heap.size wr w1) : KS w B g a len cap w1 gl n c L :=
  ⟨h.ds.later hB hb, ownsRow_below h.ow hb, h.sz⟩
theorem KS.size (h : KS w B g a len cap wr gl n c L) : w.heap.size ≤ wr.heap.size := h.ds.gr.size
theorem KS.fresh (h : KS w B g a len cap wr gl n c L) (hB : B ≤ g) : KS w B g a len cap (wr.alloc (.cells #[] 35)) wr.heap.size 0 0 [] :=
  ⟨h.ds.later hB ((Below.refl _ _).alloc (Nat.le_refl _) _), own_lit0 wr h.size, fun x hx => by simp at hx⟩
theorem KS.app {gl' c' : Nat} {v0 : ByteArray} {v1 v2 : Int} (h : KS w B g a len cap wr gl n c L) (hBw : B ≤ w.heap.size) (hg : g < w.heap.size) (ho : Own w1 w.heap.size gl' (n + 1) c' (L ++ [(v0, v1, v2)])) (hgr : wr.grownBy w1 (some gl)) (hs : v0.size ≤ 41) : KS w B g a len cap w1 gl' (n + 1) c' (L ++ [(v0, v1, v2)]) :=
  have hb : Below w.heap.size wr w1 := (Below.refl _ _).grown hgr (h.ds.gr.size) (fun k hk => by injection hk with hk; subst hk; exact own_ge h.ow)
  ⟨h.ds.app hBw hg hb, ho, fun x hx => by
    rcases List.mem_append.1 hx with hx | hx
    · exact h.sz x hx
    · simp at hx; subst hx; exact hs⟩
theorem KS.put {L' : List Kl} {i : Nat} {v : Value} (h : KS w B g a len cap wr gl n c L) (hBw : B ≤ w.heap.size) (hg : g < w.heap.size) (ho : Own (wr.setCell ⟨gl, i, none⟩ v) w.heap.size gl n c L') (hs : ∀ x ∈ L', x.1.size ≤ 41) : KS w B g a len cap (wr.setCell ⟨gl, i, none⟩ v) gl n c L' :=
  ⟨h.ds.app hBw hg ((Below.refl _ _).setCell (p := ⟨gl, i, none⟩) (own_ge h.ow) v), ho, hs⟩
end
theorem set_same {xs : List Value} {i : Nat} {v : Value} (h : xs[i]? = some v) : xs.set i v = xs := by
  obtain ⟨h1, h2⟩ := List.getElem?_eq_some_iff.1 h
  subst h2
  exact List.set_getElem_self h1
theorem own_put0 {w : World} {B g n cap k : Nat} {l : List Kl} {x : Kl} (s : ByteArray) (hk : l[k]? = some x) (h : Own w B g n cap l) : Own (w.setCell ⟨g, k * 3, none⟩ (.string s)) B g n cap (l.set k (s, x.2.1, x.2.2)) := by
  have hl : k < l.length := (List.getElem?_eq_some_iff.1 hk).1
  obtain ⟨a0, a1, a2⟩ := flK_get hk
  have h0 := (h.stored (k * 3) (sv s)).1
  have e : flK (l.set k (s, x.2.1, x.2.2)) = (flK l).set (k * 3) (sv s) := by
    rw [← flK_set hl, set_same (i := k * 3 + 1) (by rw [List.getElem?_set_ne (by omega)]; exact a1), set_same (i := k * 3 + 2) (by rw [List.getElem?_set_ne (by omega)]; exact a2)]
  show World.ownsRow _ _ _ _ _ _ _
  rw [e]; exact h0
theorem own_put1 {w : World} {B g n cap k : Nat} {l : List Kl} {x : Kl} (s : Int) (hk : l[k]? = some x) (h : Own w B g n cap l) : Own (w.setCell ⟨g, k * 3 + 1, none⟩ (.int .i64 s)) B g n cap (l.set k (x.1, s, x.2.2)) := by
  have hl : k < l.length := (List.getElem?_eq_some_iff.1 hk).1
  obtain ⟨a0, a1, a2⟩ := flK_get hk
  have h0 := (h.stored (k * 3 + 1) (iv s)).1
  have e : flK (l.set k (x.1, s, x.2.2)) = (flK l).set (k * 3 + 1) (iv s) := by
    rw [← flK_set hl, set_same (i := k * 3) (by exact a0), set_same (i := k * 3 + 2) (by rw [List.getElem?_set_ne (by omega)]; exact a2)]
  show World.ownsRow _ _ _ _ _ _ _
  rw [e]; exact h0
theorem own_put2 {w : World} {B g n cap k : Nat} {l : List Kl} {x : Kl} (s : Int) (hk : l[k]? = some x) (h : Own w B g n cap l) : Own (w.setCell ⟨g, k * 3 + 2, none⟩ (.int .i64 s)) B g n cap (l.set k (x.1, x.2.1, s)) := by
  have hl : k < l.length := (List.getElem?_eq_some_iff.1 hk).1
  obtain ⟨a0, a1, a2⟩ := flK_get hk
  have h0 := (h.stored (k * 3 + 2) (iv s)).1
  have e : flK (l.set k (x.1, x.2.1, s)) = (flK l).set (k * 3 + 2) (iv s) := by
    rw [← flK_set hl, set_same (i := k * 3) (by exact a0), set_same (i := k * 3 + 1) (by exact a1)]
  show World.ownsRow _ _ _ _ _ _ _
  rw [e]; exact h0
theorem sz_set {l : List Kl} {k : Nat} {x : Kl} (h : ∀ y ∈ l, y.1.size ≤ 41) (hx : x.1.size ≤ 41) : ∀ y ∈ l.set k x, y.1.size ≤ 41 := fun y hy => by
  rcases List.mem_or_eq_of_mem_set hy with h1 | h1
  · exact h y h1
  · subst h1; exact hx
theorem lit_at5s {w : World} {T : TypeId} {a0 a1 a2 a3 a4 : ByteArray} (h : ∀ s ∈ [a0, a1, a2, a3, a4], s.size ≤ 41) (k : Nat) (hk : k < 5) : ∃ v : ByteArray, v.size ≤ 41 ∧ (w.alloc (.cells #[.string a0, .string a1, .string a2, .string a3, .string a4] T)).cell? ⟨w.heap.size, k, none⟩ = some (.string v) := by
  have hc : k = 0 ∨ k = 1 ∨ k = 2 ∨ k = 3 ∨ k = 4 := by omega
  rcases hc with rfl | rfl | rfl | rfl | rfl
  · exact ⟨a0, h _ (by simp), by simp [go_sem]⟩
  · exact ⟨a1, h _ (by simp), by simp [go_sem]⟩
  · exact ⟨a2, h _ (by simp), by simp [go_sem]⟩
  · exact ⟨a3, h _ (by simp), by simp [go_sem]⟩
  · exact ⟨a4, h _ (by simp), by simp [go_sem]⟩
theorem lit_at4 {w : World} {T : TypeId} {a0 a1 a2 a3 : Int} (k : Nat) (hk : k < 4) : ∃ v : Int, (w.alloc (.cells #[.int .i64 a0, .int .i64 a1, .int .i64 a2, .int .i64 a3] T)).cell? ⟨w.heap.size, k, none⟩ = some (.int .i64 v) := by
  have hc : k = 0 ∨ k = 1 ∨ k = 2 ∨ k = 3 := by omega
  rcases hc with rfl | rfl | rfl | rfl
  · exact ⟨a0, by simp [go_sem]⟩
  · exact ⟨a1, by simp [go_sem]⟩
  · exact ⟨a2, by simp [go_sem]⟩
  · exact ⟨a3, by simp [go_sem]⟩
/-- a package is drawn -/
def AnQ (w : World) (B g : Nat) (a : Option Addr) (len cap : Nat) (e : Ending) (w' : World) : Prop := ∃ gl n c L, e = .returned (.slice (some ⟨gl, 0, none⟩) n c) ∧ n ≤ 200 ∧ KS w B g a len cap w' gl n c L
/-- what Pack made -/
theorem ks_pack {w w1 w2 : World} {B g : Nat} {a : Option Addr} {len cap gn n cn gb cb : Nat} {A : List ByteArray} {vs : List Value} {ts : List (List Int)} {gl c : Nat} {L : List Kl} {ok : Bool} (h : NS w B g a len cap w1 gn n cn A gb n cb vs ts) (hB : B ≤ g) (hn : n ≤ 6) (ho : Own w2 w1.heap.size gl L.length c L) (hb : Below w1.heap.size w1 w2) (hq : PkQ A ts L ok) : KS w B g a len cap w2 gl L.length c L ∧ L.length ≤ 6 := by
  have hA := ownS_len h.on
  have hlen := h.len
  rcases hq with ⟨_, hg, hp, _⟩ | ⟨_, rfl, _⟩
  · refine ⟨⟨h.ds.later hB hb, own_mono ho h.size, fun x hx => ?_⟩, ?_⟩
    · obtain ⟨j, hj⟩ := List.getElem?_of_mem (hp.mem_iff.1 hx)
      have hjl := (List.getElem?_eq_some_iff.1 hj).1
      have hj1 : j < A.length := by rw [pkL_len hg.len] at hjl; exact hjl
      have e1 : A[j]? = some (A[j]'hj1) := List.getElem?_eq_getElem hj1
      have e2 : ts[j]? = some (ts[j]'(by omega)) := List.getElem?_eq_getElem (by omega)
      simp only [pkL, List.getElem?_zipWith, e1, e2] at hj
      injection hj with hj
      rw [← hj]
      have := h.nms _ (List.mem_of_getElem? e1)
      show (A[j]'hj1).size ≤ 41
      omega
    · rw [hp.length_eq, pkL_len hg.len]; omega
  · exact ⟨⟨h.ds.later hB hb, own_mono ho h.size, fun x hx => by simp at hx⟩, by simp⟩

set_option maxRecDepth 100000 in
set_option maxHeartbeats 12800000 in
theorem dpk_any (B g : Nat) (a : Option Addr) (len cap : Nat) (w : World) (hB : B ≤ g) (hBw : B ≤ w.heap.size) (hl : len ≤ 9223372036854775807) (hc : CurAt w g a len cap) (hr : RdB w B a len) :
    Calls Try.prog 10 #[.pointer (some ⟨g, 0, none⟩)] w (AnQ w B g a len cap) := by
  have hgl := hc.lt
  go_enter Try.func10, Try.ntmps10
  go_wp2_with fail
  refine (dnm_any B g a len cap w hB hBw hl hc hr).mono ?_
  rintro e w1 ⟨gn, n, cn, A, gb, cb, vs, ts, rfl, hn6, S⟩
  have hcall := hide (show Calls Try.prog 21 #[.slice (some ⟨gn, 0, none⟩) n cn, .slice (some ⟨gb, 0, none⟩) n cb] w1 (AnP w1 (PkQ A ts)) by
    have h1 := ownS_len S.on
    have h2 := S.len
    have := spack_any (some ⟨gn, 0, none⟩) (some ⟨gb, 0, none⟩) cn cb A ts w1 (by omega) (by omega) (fun s hs => by have := S.nms s hs; unfold maxLen; omega) S.byt (sts_own S.on) S.tks
    rw [h1, h2] at this
    exact this)
  have S := hide S
  clear hc hr
  go_wp2_with fail
  refine (unhide hcall).mono ?_
  rintro e w2 ⟨L, ok, gl, c, rfl, ho, hb, hq⟩
  obtain ⟨K0, hL6⟩ := ks_pack (unhide S) hB hn6 ho hb hq
  have K0 := hide K0
  clear ho hb hq S hcall
  obtain ⟨m, hm⟩ : ∃ m, L.length = m := ⟨_, rfl⟩
  rw [hm] at K0 hL6 ⊢
  have hm := hide hm
  go_wp2_with fail
  refine (once_any B g a len cap 14 _ hB hl (unhide K0).ds.cur (unhide K0).ds.rd (by omega)).mono ?_
  rintro e w3 ⟨v, rfl, k1, g1⟩
  have K1 := hide ((unhide K0).step hB hgl k1 g1)
  clear k1 g1 K0
  cases v with
  | false =>
    have Kt := K1
    clear K1
    go_wp2_with fail
    refine (once_any B g a len cap 60 _ hB hl (unhide Kt).ds.cur (unhide Kt).ds.rd (by omega)).mono ?_
    rintro e wt ⟨v9, rfl, k1, g1⟩
    have Kt2 := hide ((unhide Kt).step hB hgl k1 g1)
    clear k1 g1 Kt
    cases v9 with
    | false =>
      go_wp2
      go_ret
      exact ⟨_, _, _, _, rfl, by omega, unhide Kt2⟩
    | true =>
      have Kt3 := hide ((unhide Kt2).fresh hB)
      clear Kt2
      go_wp2
      go_loopw [5, 8] (fun u t wr => ∃ (k gg cc : Nat) (M : List Kl), k ≤ 101 ∧ t = .int .i64 k ∧ u = .slice (some ⟨gg, 0, none⟩) k cc ∧ Hid (KS w B g a len cap wr gg k cc M)) (fun _ t _ => 102 - (intOf t).toNat)
      case atStart => exact ⟨0, wt.heap.size, 0, [], by omega, rfl, rfl, Kt3⟩
      case round =>
        clear Kt3
        obtain ⟨k, gg, cc, M, hk, rfl, rfl, Kt⟩ := hrel
        go_wp2_with fail
        refine (below_any B g a len cap 2 _ hB hl (unhide Kt).ds.cur (unhide Kt).ds.rd (by omega)).mono ?_
        rintro e wu ⟨x, rfl, x0, x1, k1, g1⟩
        have Ku := hide ((unhide Kt).step hB hgl k1 g1)
        clear k1 g1 Kt
        by_cases hlt : (k : Int) < 100 + x
        · have gx : decide ((k : Int) < 100 + x) = true := decide_eq_true hlt
          go_wp2_with fail
          refine (swide_nat k 4 _ (by omega) (by omega)).mono ?_
          rintro e wv ⟨rfl, hbv⟩
          have Kv := hide ((unhide Ku).later hB hbv)
          have hs9 := wide_len (n := k) (by omega)
          clear hbv Ku
          generalize (⟨(Pl.wide 4 k).toArray⟩ : ByteArray) = s9 at *
          go_wp2_with (with_reducible refine wpList_kG wv rfl _ _ rfl w.heap.size gg k cc M s9 0 0 rfl (unhide Kv).ow rfl (by omega) (unhide Kv).size ?_)
          intro g' c' w' o' b' q1 q2
          have Kw := hide ((unhide Kv).app hBw hgl o' b' (by omega))
          clear o' b' q1 q2 Kv
          go_wp2
          go_roundw
          case rel => exact ⟨k + 1, g', c', _, by omega, by go_num, by go_num, Kw⟩
          case measure => simp [intOf]; omega
        · have gx : decide ((k : Int) < 100 + x) = false := decide_eq_false hlt
          go_wp2
          go_ret
          exact ⟨_, _, _, _, rfl, by omega, unhide Ku⟩
  | true =>
  by_cases hm0 : 0 < m
  rotate_left
  · have g0 : decide ((0 : Int) < m) = false := by simp; omega
    have g1 : decide (0 < m) = false := by simp; omega
    have Kt := K1
    clear K1
    go_wp2_with fail
    refine (once_any B g a len cap 60 _ hB hl (unhide Kt).ds.cur (unhide Kt).ds.rd (by omega)).mono ?_
    rintro e wt ⟨v9, rfl, k1, g1⟩
    have Kt2 := hide ((unhide Kt).step hB hgl k1 g1)
    clear k1 g1 Kt
    cases v9 with
    | false =>
      go_wp2
      go_ret
      exact ⟨_, _, _, _, rfl, by omega, unhide Kt2⟩
    | true =>
      have Kt3 := hide ((unhide Kt2).fresh hB)
      clear Kt2
      go_wp2
      go_loopw [5, 8] (fun u t wr => ∃ (k gg cc : Nat) (M : List Kl), k ≤ 101 ∧ t = .int .i64 k ∧ u = .slice (some ⟨gg, 0, none⟩) k cc ∧ Hid (KS w B g a len cap wr gg k cc M)) (fun _ t _ => 102 - (intOf t).toNat)
      case atStart => exact ⟨0, wt.heap.size, 0, [], by omega, rfl, rfl, Kt3⟩
      case round =>
        clear Kt3
        obtain ⟨k, gg, cc, M, hk, rfl, rfl, Kt⟩ := hrel
        go_wp2_with fail
        refine (below_any B g a len cap 2 _ hB hl (unhide Kt).ds.cur (unhide Kt).ds.rd (by omega)).mono ?_
        rintro e wu ⟨x, rfl, x0, x1, k1, g1⟩
        have Ku := hide ((unhide Kt).step hB hgl k1 g1)
        clear k1 g1 Kt
        by_cases hlt : (k : Int) < 100 + x
        · have gx : decide ((k : Int) < 100 + x) = true := decide_eq_true hlt
          go_wp2_with fail
          refine (swide_nat k 4 _ (by omega) (by omega)).mono ?_
          rintro e wv ⟨rfl, hbv⟩
          have Kv := hide ((unhide Ku).later hB hbv)
          have hs9 := wide_len (n := k) (by omega)
          clear hbv Ku
          generalize (⟨(Pl.wide 4 k).toArray⟩ : ByteArray) = s9 at *
          go_wp2_with (with_reducible refine wpList_kG wv rfl _ _ rfl w.heap.size gg k cc M s9 0 0 rfl (unhide Kv).ow rfl (by omega) (unhide Kv).size ?_)
          intro g' c' w' o' b' q1 q2
          have Kw := hide ((unhide Kv).app hBw hgl o' b' (by omega))
          clear o' b' q1 q2 Kv
          go_wp2
          go_roundw
          case rel => exact ⟨k + 1, g', c', _, by omega, by go_num, by go_num, Kw⟩
          case measure => simp [intOf]; omega
        · have gx : decide ((k : Int) < 100 + x) = false := decide_eq_false hlt
          go_wp2
          go_ret
          exact ⟨_, _, _, _, rfl, by omega, unhide Ku⟩
  have g0 : decide ((0 : Int) < m) = true := by simp; omega
  have g1 : decide (0 < m) = true := by simp; omega
  go_wp2_with fail
  refine (below_any B g a len cap m _ hB hl (unhide K1).ds.cur (unhide K1).ds.rd (by omega)).mono ?_
  rintro e w4 ⟨x, rfl, x0, x1, k1, g1⟩
  obtain ⟨i, rfl⟩ := Int.eq_ofNat_of_zero_le x0
  have K2 := hide ((unhide K1).step hB hgl k1 g1)
  clear k1 g1 K1
  have him : i < m := by omega
  go_wp2_with fail
  refine (below_any B g a len cap 4 _ hB hl (unhide K2).ds.cur (unhide K2).ds.rd (by omega)).mono ?_
  rintro e w5 ⟨y, rfl, y0, y1, k1, g1⟩
  have K3 := hide ((unhide K2).step hB hgl k1 g1)
  clear k1 g1 K2
  obtain ⟨z, hz⟩ : ∃ z, L[i]? = some z := ⟨L[i]'(by have := unhide hm; omega), List.getElem?_eq_getElem _⟩
  have hzz := hide (unhide K3).sz
  obtain ⟨d0, d1, d2⟩ := own_cells hz (unhide K3).ow
  have f0 := (unhide K3).ow.frozenAt (i * 3)
  have f1 := (unhide K3).ow.frozenAt (i * 3 + 1)
  have f2 := (unhide K3).ow.frozenAt (i * 3 + 2)
  have hz := hide hz
  have hy : y = 0 ∨ y = 1 ∨ y = 2 ∨ y = 3 := by omega
  have hgw := (unhide K3).size
  have hgo := own_lt (unhide K3).ow
  have hge := own_ge (unhide K3).ow
  rcases hy with rfl | rfl | rfl | rfl
  · have hla := hide (fun q hq => lit_at5s (w := w5) (T := 9) (a0 := ⟨#[]⟩) (a1 := ⟨#[97, 32, 98]⟩) (a2 := ⟨#[114, 101, 101, 108]⟩) (a3 := ⟨#[122, 122]⟩) (a4 := ⟨#[48, 49, 50, 51, 52, 53, 54, 55, 56, 57, 48, 49, 50, 51, 52, 53, 54, 55, 56, 57, 48, 49, 50, 51, 52, 53, 54, 55, 56, 57, 48, 49, 50, 51, 52, 53, 54, 55, 56, 57, 48]⟩) (by decide) q hq)
    have K4 := hide ((unhide K3).later hB ((Below.refl w5.heap.size w5).alloc (Nat.le_refl _) (.cells #[.string ⟨#[]⟩, .string ⟨#[97, 32, 98]⟩, .string ⟨#[114, 101, 101, 108]⟩, .string ⟨#[122, 122]⟩, .string ⟨#[48, 49, 50, 51, 52, 53, 54, 55, 56, 57, 48, 49, 50, 51, 52, 53, 54, 55, 56, 57, 48, 49, 50, 51, 52, 53, 54, 55, 56, 57, 48, 49, 50, 51, 52, 53, 54, 55, 56, 57, 48]⟩] 9)))
    clear K3 d0 d1 d2 f0 f1 f2
    go_wp2_with fail
    generalize hY : w5.alloc _ = Y at *
    refine (below_any B g a len cap 5 _ hB hl (unhide K4).ds.cur (unhide K4).ds.rd (by omega)).mono ?_
    rintro e w6 ⟨q, rfl, q0, q1, k1, g1⟩
    obtain ⟨r, rfl⟩ := Int.eq_ofNat_of_zero_le q0
    obtain ⟨s, hs41, hv⟩ := unhide hla r (by omega)
    have hv1 := grown_cell g1 (by omega) hv
    have K5 := hide ((unhide K4).step hB hgl k1 g1)
    clear hv k1 g1 K4 hla hY
    have Kt := hide ((unhide K5).put hBw hgl (own_put0 s (unhide hz) (unhide K5).ow) (sz_set (unhide K5).sz hs41))
    obtain ⟨d0, d1, d2⟩ := own_cells (unhide hz) (unhide K5).ow
    have f0 := (unhide K5).ow.frozenAt (i * 3)
    have f1 := (unhide K5).ow.frozenAt (i * 3 + 1)
    have f2 := (unhide K5).ow.frozenAt (i * 3 + 2)
    clear K5
    go_wp2_with fail
    refine (once_any B g a len cap 60 _ hB hl (unhide Kt).ds.cur (unhide Kt).ds.rd (by omega)).mono ?_
    rintro e wt ⟨v9, rfl, k1, g1⟩
    have Kt2 := hide ((unhide Kt).step hB hgl k1 g1)
    clear k1 g1 Kt
    cases v9 with
    | false =>
      go_wp2
      go_ret
      exact ⟨_, _, _, _, rfl, by omega, unhide Kt2⟩
    | true =>
      have Kt3 := hide ((unhide Kt2).fresh hB)
      clear Kt2
      go_wp2
      go_loopw [5, 8] (fun u t wr => ∃ (k gg cc : Nat) (M : List Kl), k ≤ 101 ∧ t = .int .i64 k ∧ u = .slice (some ⟨gg, 0, none⟩) k cc ∧ Hid (KS w B g a len cap wr gg k cc M)) (fun _ t _ => 102 - (intOf t).toNat)
      case atStart => exact ⟨0, wt.heap.size, 0, [], by omega, rfl, rfl, Kt3⟩
      case round =>
        clear Kt3
        obtain ⟨k, gg, cc, M, hk, rfl, rfl, Kt⟩ := hrel
        go_wp2_with fail
        refine (below_any B g a len cap 2 _ hB hl (unhide Kt).ds.cur (unhide Kt).ds.rd (by omega)).mono ?_
        rintro e wu ⟨x, rfl, x0, x1, k1, g1⟩
        have Ku := hide ((unhide Kt).step hB hgl k1 g1)
        clear k1 g1 Kt
        by_cases hlt : (k : Int) < 100 + x
        · have gx : decide ((k : Int) < 100 + x) = true := decide_eq_true hlt
          go_wp2_with fail
          refine (swide_nat k 4 _ (by omega) (by omega)).mono ?_
          rintro e wv ⟨rfl, hbv⟩
          have Kv := hide ((unhide Ku).later hB hbv)
          have hs9 := wide_len (n := k) (by omega)
          clear hbv Ku
          generalize (⟨(Pl.wide 4 k).toArray⟩ : ByteArray) = s9 at *
          go_wp2_with (with_reducible refine wpList_kG wv rfl _ _ rfl w.heap.size gg k cc M s9 0 0 rfl (unhide Kv).ow rfl (by omega) (unhide Kv).size ?_)
          intro g' c' w' o' b' q1 q2
          have Kw := hide ((unhide Kv).app hBw hgl o' b' (by omega))
          clear o' b' q1 q2 Kv
          go_wp2
          go_roundw
          case rel => exact ⟨k + 1, g', c', _, by omega, by go_num, by go_num, Kw⟩
          case measure => simp [intOf]; omega
        · have gx : decide ((k : Int) < 100 + x) = false := decide_eq_false hlt
          go_wp2
          go_ret
          exact ⟨_, _, _, _, rfl, by omega, unhide Ku⟩
  · have hla := hide (fun q hq => lit_at3 (w := w5) (T := 2) (a0 := -1) (a1 := 40000) (a2 := 40001) q hq)
    have K4 := hide ((unhide K3).later hB ((Below.refl w5.heap.size w5).alloc (Nat.le_refl _) (.cells #[.int .i64 (-1), .int .i64 40000, .int .i64 40001] 2)))
    clear K3 d0 d1 d2 f0 f1 f2
    go_wp2_with fail
    generalize hY : w5.alloc _ = Y at *
    refine (below_any B g a len cap 3 _ hB hl (unhide K4).ds.cur (unhide K4).ds.rd (by omega)).mono ?_
    rintro e w6 ⟨q, rfl, q0, q1, k1, g1⟩
    obtain ⟨r, rfl⟩ := Int.eq_ofNat_of_zero_le q0
    obtain ⟨s, hv⟩ := unhide hla r (by omega)
    have hv1 := grown_cell g1 (by omega) hv
    have K5 := hide ((unhide K4).step hB hgl k1 g1)
    clear hv k1 g1 K4 hla hY
    have Kt := hide ((unhide K5).put hBw hgl (own_put1 s (unhide hz) (unhide K5).ow) (sz_set (unhide K5).sz ((unhide K5).sz z (List.mem_of_getElem? (unhide hz)))))
    obtain ⟨d0, d1, d2⟩ := own_cells (unhide hz) (unhide K5).ow
    have f0 := (unhide K5).ow.frozenAt (i * 3)
    have f1 := (unhide K5).ow.frozenAt (i * 3 + 1)
    have f2 := (unhide K5).ow.frozenAt (i * 3 + 2)
    clear K5
    go_wp2_with fail
    refine (once_any B g a len cap 60 _ hB hl (unhide Kt).ds.cur (unhide Kt).ds.rd (by omega)).mono ?_
    rintro e wt ⟨v9, rfl, k1, g1⟩
    have Kt2 := hide ((unhide Kt).step hB hgl k1 g1)
    clear k1 g1 Kt
    cases v9 with
    | false =>
      go_wp2
      go_ret
      exact ⟨_, _, _, _, rfl, by omega, unhide Kt2⟩
    | true =>
      have Kt3 := hide ((unhide Kt2).fresh hB)
      clear Kt2
      go_wp2
      go_loopw [5, 8] (fun u t wr => ∃ (k gg cc : Nat) (M : List Kl), k ≤ 101 ∧ t = .int .i64 k ∧ u = .slice (some ⟨gg, 0, none⟩) k cc ∧ Hid (KS w B g a len cap wr gg k cc M)) (fun _ t _ => 102 - (intOf t).toNat)
      case atStart => exact ⟨0, wt.heap.size, 0, [], by omega, rfl, rfl, Kt3⟩
      case round =>
        clear Kt3
        obtain ⟨k, gg, cc, M, hk, rfl, rfl, Kt⟩ := hrel
        go_wp2_with fail
        refine (below_any B g a len cap 2 _ hB hl (unhide Kt).ds.cur (unhide Kt).ds.rd (by omega)).mono ?_
        rintro e wu ⟨x, rfl, x0, x1, k1, g1⟩
        have Ku := hide ((unhide Kt).step hB hgl k1 g1)
        clear k1 g1 Kt
        by_cases hlt : (k : Int) < 100 + x
        · have gx : decide ((k : Int) < 100 + x) = true := decide_eq_true hlt
          go_wp2_with fail
          refine (swide_nat k 4 _ (by omega) (by omega)).mono ?_
          rintro e wv ⟨rfl, hbv⟩
          have Kv := hide ((unhide Ku).later hB hbv)
          have hs9 := wide_len (n := k) (by omega)
          clear hbv Ku
          generalize (⟨(Pl.wide 4 k).toArray⟩ : ByteArray) = s9 at *
          go_wp2_with (with_reducible refine wpList_kG wv rfl _ _ rfl w.heap.size gg k cc M s9 0 0 rfl (unhide Kv).ow rfl (by omega) (unhide Kv).size ?_)
          intro g' c' w' o' b' q1 q2
          have Kw := hide ((unhide Kv).app hBw hgl o' b' (by omega))
          clear o' b' q1 q2 Kv
          go_wp2
          go_roundw
          case rel => exact ⟨k + 1, g', c', _, by omega, by go_num, by go_num, Kw⟩
          case measure => simp [intOf]; omega
        · have gx : decide ((k : Int) < 100 + x) = false := decide_eq_false hlt
          go_wp2
          go_ret
          exact ⟨_, _, _, _, rfl, by omega, unhide Ku⟩
  · have hla := hide (fun q hq => lit_at4 (w := w5) (T := 2) (a0 := -1) (a1 := 1000000006) (a2 := 1000000007) (a3 := 5) q hq)
    have K4 := hide ((unhide K3).later hB ((Below.refl w5.heap.size w5).alloc (Nat.le_refl _) (.cells #[.int .i64 (-1), .int .i64 1000000006, .int .i64 1000000007, .int .i64 5] 2)))
    clear K3 d0 d1 d2 f0 f1 f2
    go_wp2_with fail
    generalize hY : w5.alloc _ = Y at *
    refine (below_any B g a len cap 4 _ hB hl (unhide K4).ds.cur (unhide K4).ds.rd (by omega)).mono ?_
    rintro e w6 ⟨q, rfl, q0, q1, k1, g1⟩
    obtain ⟨r, rfl⟩ := Int.eq_ofNat_of_zero_le q0
    obtain ⟨s, hv⟩ := unhide hla r (by omega)
    have hv1 := grown_cell g1 (by omega) hv
    have K5 := hide ((unhide K4).step hB hgl k1 g1)
    clear hv k1 g1 K4 hla hY
    have Kt := hide ((unhide K5).put hBw hgl (own_put2 s (unhide hz) (unhide K5).ow) (sz_set (unhide K5).sz ((unhide K5).sz z (List.mem_of_getElem? (unhide hz)))))
    obtain ⟨d0, d1, d2⟩ := own_cells (unhide hz) (unhide K5).ow
    have f0 := (unhide K5).ow.frozenAt (i * 3)
    have f1 := (unhide K5).ow.frozenAt (i * 3 + 1)
    have f2 := (unhide K5).ow.frozenAt (i * 3 + 2)
    clear K5
    go_wp2_with fail
    refine (once_any B g a len cap 60 _ hB hl (unhide Kt).ds.cur (unhide Kt).ds.rd (by omega)).mono ?_
    rintro e wt ⟨v9, rfl, k1, g1⟩
    have Kt2 := hide ((unhide Kt).step hB hgl k1 g1)
    clear k1 g1 Kt
    cases v9 with
    | false =>
      go_wp2
      go_ret
      exact ⟨_, _, _, _, rfl, by omega, unhide Kt2⟩
    | true =>
      have Kt3 := hide ((unhide Kt2).fresh hB)
      clear Kt2
      go_wp2
      go_loopw [5, 8] (fun u t wr => ∃ (k gg cc : Nat) (M : List Kl), k ≤ 101 ∧ t = .int .i64 k ∧ u = .slice (some ⟨gg, 0, none⟩) k cc ∧ Hid (KS w B g a len cap wr gg k cc M)) (fun _ t _ => 102 - (intOf t).toNat)
      case atStart => exact ⟨0, wt.heap.size, 0, [], by omega, rfl, rfl, Kt3⟩
      case round =>
        clear Kt3
        obtain ⟨k, gg, cc, M, hk, rfl, rfl, Kt⟩ := hrel
        go_wp2_with fail
        refine (below_any B g a len cap 2 _ hB hl (unhide Kt).ds.cur (unhide Kt).ds.rd (by omega)).mono ?_
        rintro e wu ⟨x, rfl, x0, x1, k1, g1⟩
        have Ku := hide ((unhide Kt).step hB hgl k1 g1)
        clear k1 g1 Kt
        by_cases hlt : (k : Int) < 100 + x
        · have gx : decide ((k : Int) < 100 + x) = true := decide_eq_true hlt
          go_wp2_with fail
          refine (swide_nat k 4 _ (by omega) (by omega)).mono ?_
          rintro e wv ⟨rfl, hbv⟩
          have Kv := hide ((unhide Ku).later hB hbv)
          have hs9 := wide_len (n := k) (by omega)
          clear hbv Ku
          generalize (⟨(Pl.wide 4 k).toArray⟩ : ByteArray) = s9 at *
          go_wp2_with (with_reducible refine wpList_kG wv rfl _ _ rfl w.heap.size gg k cc M s9 0 0 rfl (unhide Kv).ow rfl (by omega) (unhide Kv).size ?_)
          intro g' c' w' o' b' q1 q2
          have Kw := hide ((unhide Kv).app hBw hgl o' b' (by omega))
          clear o' b' q1 q2 Kv
          go_wp2
          go_roundw
          case rel => exact ⟨k + 1, g', c', _, by omega, by go_num, by go_num, Kw⟩
          case measure => simp [intOf]; omega
        · have gx : decide ((k : Int) < 100 + x) = false := decide_eq_false hlt
          go_wp2
          go_ret
          exact ⟨_, _, _, _, rfl, by omega, unhide Ku⟩
  · obtain ⟨z0, z1, z2⟩ := z
    have hs41 := (unhide K3).sz _ (List.mem_of_getElem? (unhide hz))
    simp only at d0 d1 d2 hs41
    go_wp2_with (with_reducible refine wpList_kG w5 rfl _ _ rfl w.heap.size gl m c L z0 z1 z2 rfl (unhide K3).ow rfl (by omega) (unhide K3).size ?_)
    intro g' c' w' o' b' q1 q2
    have Kt := hide ((unhide K3).app hBw hgl o' b' hs41)
    clear o' b' q1 q2 K3 d0 d1 d2 f0 f1 f2
    go_wp2_with fail
    refine (once_any B g a len cap 60 _ hB hl (unhide Kt).ds.cur (unhide Kt).ds.rd (by omega)).mono ?_
    rintro e wt ⟨v9, rfl, k1, g1⟩
    have Kt2 := hide ((unhide Kt).step hB hgl k1 g1)
    clear k1 g1 Kt
    cases v9 with
    | false =>
      go_wp2
      go_ret
      exact ⟨_, _, _, _, rfl, by omega, unhide Kt2⟩
    | true =>
      have Kt3 := hide ((unhide Kt2).fresh hB)
      clear Kt2
      go_wp2
      go_loopw [5, 8] (fun u t wr => ∃ (k gg cc : Nat) (M : List Kl), k ≤ 101 ∧ t = .int .i64 k ∧ u = .slice (some ⟨gg, 0, none⟩) k cc ∧ Hid (KS w B g a len cap wr gg k cc M)) (fun _ t _ => 102 - (intOf t).toNat)
      case atStart => exact ⟨0, wt.heap.size, 0, [], by omega, rfl, rfl, Kt3⟩
      case round =>
        clear Kt3
        obtain ⟨k, gg, cc, M, hk, rfl, rfl, Kt⟩ := hrel
        go_wp2_with fail
        refine (below_any B g a len cap 2 _ hB hl (unhide Kt).ds.cur (unhide Kt).ds.rd (by omega)).mono ?_
        rintro e wu ⟨x, rfl, x0, x1, k1, g1⟩
        have Ku := hide ((unhide Kt).step hB hgl k1 g1)
        clear k1 g1 Kt
        by_cases hlt : (k : Int) < 100 + x
        · have gx : decide ((k : Int) < 100 + x) = true := decide_eq_true hlt
          go_wp2_with fail
          refine (swide_nat k 4 _ (by omega) (by omega)).mono ?_
          rintro e wv ⟨rfl, hbv⟩
          have Kv := hide ((unhide Ku).later hB hbv)
          have hs9 := wide_len (n := k) (by omega)
          clear hbv Ku
          generalize (⟨(Pl.wide 4 k).toArray⟩ : ByteArray) = s9 at *
          go_wp2_with (with_reducible refine wpList_kG wv rfl _ _ rfl w.heap.size gg k cc M s9 0 0 rfl (unhide Kv).ow rfl (by omega) (unhide Kv).size ?_)
          intro g' c' w' o' b' q1 q2
          have Kw := hide ((unhide Kv).app hBw hgl o' b' (by omega))
          clear o' b' q1 q2 Kv
          go_wp2
          go_roundw
          case rel => exact ⟨k + 1, g', c', _, by omega, by go_num, by go_num, Kw⟩
          case measure => simp [intOf]; omega
        · have gx : decide ((k : Int) < 100 + x) = false := decide_eq_false hlt
          go_wp2
          go_ret
          exact ⟨_, _, _, _, rfl, by omega, unhide Ku⟩

end Go.Proofs.Ytcgdcabmjihijaa
