/-
  Contracts of the model's texts of numbers; nothing that was there is written.
  The draw of what is packed: names and bodies; nothing that was there is written.
  A package verifies what it was made of and tells one byte turned, as plain values; no conditions.
-/
import Derived.Test.YtghglpcfpokmhaaZDg
import Derived.Test.YtghglpcfpokmhaaZMk
import Derived.Test.YtghglpcfpokmhaaZAz
import Derived.Test.YtghglpcfpokmhaaZBb
import Derived.Test.YtghglpcfpokmhaaZIdS
namespace Go.Proofs.Ytghglpcfpokmhaa
open Go.RowKit
set_option linter.unusedVariables false
set_option linter.unusedSimpArgs false

def sLen : Value → Nat
  | .string s => s.size
  | _ => 0
def sEmpty : Value → Nat
  | .string s => 1 - s.size
  | _ => 0
theorem conv1D (x : Nat) (w : World) : (convert 22 9 (.slice (some ⟨w.heap.size, 0, none⟩) 1 1)).run Try.prog (w.alloc (.cells #[.int .u8 (48 + (x : Int) % 10)] 5)) = .ok (.string ⟨#[Pl.dg x]⟩) (w.alloc (.cells #[.int .u8 (48 + (x : Int) % 10)] 5)) := by
  refine run_convert_bytes_back (P := Try.prog) _ 22 9 5 ⟨w.heap.size, 0, none⟩ 1 [Pl.dg x] Try.underlying22 Try.underlying5 Try.underlying9 (fun j hj => ?_)
  match j, hj with
  | 0, _ => simp [Addr.add, Pl.dg_toNat]
theorem ret_strD {a b : List UInt8} (h : a = b) : Ending.returned (.string ⟨a.toArray⟩) = .returned (.string ⟨b.toArray⟩) := by rw [h]
theorem str_consD (c : UInt8) (l : List UInt8) : (⟨#[c]⟩ : ByteArray) ++ ⟨l.toArray⟩ = ⟨(c :: l).toArray⟩ := ByteArray.mk_append_mk [c] l
set_option maxHeartbeats 400000 in
theorem sint_anyD (n : Nat) (w : World) (hn : n ≤ 9223372036854775807) :
    Calls Try.prog 16 #[.int .i64 n] w fun e w' => e = .returned (.string ⟨(Pl.dec n).toArray⟩) ∧ Below w.heap.size w w' := by
  have h0 : ¬ (n : Int) < 0 := by omega
  go_enter Try.func16, Try.ntmps16
  go_wp2
  go_loopw [0, 3] (fun t s wr => ∃ (x : Nat) (acc : List UInt8), t = .int .i64 x ∧ s = .string ⟨acc.toArray⟩ ∧ x ≤ n ∧ acc.length ≤ 9223372036854775807 - x ∧ ((acc = [] ∧ x = n) ∨ (acc ≠ [] ∧ Hid (Pl.decOn x acc = Pl.dec n))) ∧ Below w.heap.size w wr) (fun t s _ => (intOf t).toNat + sEmpty s)
  case atStart => exact ⟨n, [], rfl, rfl, Nat.le_refl _, by simp, .inl ⟨rfl, rfl⟩, Below.refl _ _⟩
  case round =>
    obtain ⟨x, acc, rfl, rfl, hx, hl, h, hb⟩ := hrel
    have kc := conv1D x
    rcases h with ⟨rfl, rfl⟩ | ⟨hne, hd⟩
    · go_wp2
      go_roundw
      case rel => exact ⟨x / 10, [Pl.dg x], by go_num, rfl, by omega, by simp; omega, .inr ⟨by simp, hide (Pl.decOn_first x)⟩, hb.alloc hb.size _⟩
      case measure => simp [intOf, sEmpty, ByteArray.size]; omega
    · have he : acc.isEmpty = false := by simpa using hne
      by_cases hz : 0 < x
      · go_wp2
        go_roundw
        case rel => exact ⟨x / 10, Pl.dg x :: acc, by go_num, by rw [str_consD], by omega, by simp; omega, .inr ⟨by simp, hide (by rw [Pl.decOn_step acc (by omega)]; exact unhide hd)⟩, hb.alloc hb.size _⟩
        case measure => simp [intOf, sEmpty, ByteArray.size]; omega
      · have hz' : x = 0 := by omega
        have hfin : Hid (acc = Pl.dec n) := hide (by have := unhide hd; rw [hz'] at this; simpa [Pl.decOn] using this)
        subst hz'
        go_wp2
        go_ret
        exact ⟨ret_strD (unhide hfin), hb⟩

theorem dec_lenD {n : Nat} (hn : n ≤ 9223372036854775807) : (Pl.dec n).length ≤ 19 := Pl.dec_length_lt 18 n (by omega)
theorem wide_lenD {n : Nat} (hn : n ≤ 9223372036854775807) : (⟨(Pl.wide 4 n).toArray⟩ : ByteArray).size ≤ 23 := by
  have h := dec_lenD hn
  have e : Pl.wide 4 n = List.replicate (4 - (Pl.dec n).length) 48 ++ Pl.dec n := rfl
  rw [e]
  show (List.replicate (4 - (Pl.dec n).length) 48 ++ Pl.dec n).toArray.size ≤ 23
  simp
  omega

end Go.Proofs.Ytghglpcfpokmhaa

set_option linter.unusedVariables false
set_option linter.unusedSimpArgs false
namespace Go.Proofs.Ytghglpcfpokmhaa
open Go.RowKit
/-- names and bodies are drawn -/
def AnK (w : World) (e : Ending) (w' : World) : Prop := ∃ gn n cn A gb m cb vs ts, e = .returned (.tuple #[.slice (some ⟨gn, 0, none⟩) n cn, .slice (some ⟨gb, 0, none⟩) m cb]) ∧ n ≤ 110 ∧ m ≤ 110 ∧ OwnS w' w.heap.size gn n cn A ∧ OwnV w' w.heap.size gb m cb vs ∧ ts.length = m ∧ Rw w' w.heap.size vs ts ∧ (∀ s ∈ A, s.size ≤ 40) ∧ Below w.heap.size w w'
theorem rw_mono {w : World} {B B' : Nat} {vs : List Value} {ts : List (List Int)} (h : Rw w B vs ts) (hB : B' ≤ B) : Rw w B' vs ts := fun j t ht => by
  obtain ⟨G, cc, h1, h2, h3, h4⟩ := h j t ht
  exact ⟨G, cc, h1, own_mono h2 hB, h3, h4⟩
theorem AnK.mk {W w wr : World} {g : Nat} {a : Option Addr} {len cap gn n cn gb m cb : Nat} {A : List ByteArray} {vs : List Value} {ts : List (List Int)} (h : NS w W.heap.size g a len cap wr gn n cn A gb m cb vs ts) (hb : Below W.heap.size W w) (hg : W.heap.size ≤ g) (hn : n ≤ 110) (hm : m ≤ 110) :
    AnK W (.returned (.tuple #[.slice (some ⟨gn, 0, none⟩) n cn, .slice (some ⟨gb, 0, none⟩) m cb])) wr :=
  ⟨gn, n, cn, A, gb, m, cb, vs, ts, rfl, hn, hm, own_mono h.on hb.size, own_mono h.ob hb.size, h.len, rw_mono h.rows hb.size, h.nms, below_grown hb h.ds.gr hg⟩
theorem lit_s3 {w : World} {T : TypeId} {a0 a1 a2 : ByteArray} (h : ∀ s ∈ [a0, a1, a2], s.size ≤ 40) (k : Nat) (hk : k < 3) : ∃ v : ByteArray, v.size ≤ 40 ∧ (w.alloc (.cells #[.string a0, .string a1, .string a2] T)).cell? ⟨w.heap.size, k, none⟩ = some (.string v) := by
  have hc : k = 0 ∨ k = 1 ∨ k = 2 := by omega
  rcases hc with rfl | rfl | rfl
  · exact ⟨a0, h _ (by simp), by simp [go_sem]⟩
  · exact ⟨a1, h _ (by simp), by simp [go_sem]⟩
  · exact ⟨a2, h _ (by simp), by simp [go_sem]⟩
theorem ownB_one (w : World) {B : Nat} (x : Int) (hB : B ≤ w.heap.size) : OwnB (w.alloc (.cells #[.int .u8 x] 5)) B w.heap.size 1 1 [x] := by
  have h := World.ownsRow_lit (base := B) (e := 5) (size := 1) w #[.int .u8 x] 1 hB (by unfold maxLen; omega) rfl
  exact h
theorem NS.cutZ {w wr w1 : World} {B g : Nat} {a : Option Addr} {len cap gn n cn gb m cb gb' cb' : Nat} {A : List ByteArray} {vs ys : List Value} {ts : List (List Int)} (h : NS w B g a len cap wr gn n cn A gb m cb vs ts) (hBw : B ≤ w.heap.size) (hg : g < w.heap.size) (ho : OwnV w1 w.heap.size gb' (m + 3) cb' (vs ++ ys)) (hgr : wr.grownBy w1 (some gb)) : NS w B g a len cap w1 gn n cn A gb' m cb' vs ts :=
  have hb : Below w.heap.size wr w1 := (Below.refl _ _).grown hgr (h.ds.gr.size) (fun k hk => by injection hk with hk; subst hk; exact own_ge h.ob)
  have hvl : vs.length = m := by have := h.ob.1; simpa using this
  ⟨h.ds.app hBw hg hb, own_kept h.on hgr (ne_type h.on h.ob (by decide)), own_cut ho hvl, h.len, h.rows.kept hgr (fun G n c t ho => ne_type ho h.ob (by decide)), h.nms⟩
theorem own_capge {w : World} {B e m g n c : Nat} {xs : List Value} (h : w.ownsRow B e m (.slice (some ⟨g, 0, none⟩) n c) n xs) : n ≤ c := by
  rcases h.2 with ⟨hv, _⟩ | ⟨g', cap', cur, hv, hB, hh, hc, _⟩
  · cases hv
  · injection hv with e1 e2 e3
    subst e3
    exact hc
/-- a list's length -/
def lenV : Value → Nat
  | .slice _ n _ => n
  | _ => 0
theorem nstr_len {k : Nat} (hk : k ≤ 110) : ((⟨#[110]⟩ : ByteArray) ++ ⟨(Pl.dec k).toArray⟩).size ≤ 40 := by
  have := dec_lenD (n := k) (by omega)
  rw [str_consD]
  show (110 :: Pl.dec k).toArray.size ≤ 40
  simp
  omega
theorem rdb_later {w w1 : World} {a : Option Addr} {len : Nat} (h : RdB w w.heap.size a len) (hb : Below w.heap.size w w1) : RdB w1 w.heap.size a len := by
  intro j hj
  obtain ⟨b, o, z, e, hb2, hc, h0, h1⟩ := h j hj
  exact ⟨b, o, z, e, hb2, (hb.cell (p := ⟨b, o + j, none⟩) (by show b < _; omega)).trans hc, h0, h1⟩
theorem wpList_tG2 {ops : Array Oper} {rest : List Oper} {o : Oper} {a : Act} {Q : Exit → Act → World → Prop} (w : World) (p : Nat) (hp : w.heap.size = p) (hgd : o.guard = none) (s x : Operand) (ho : o.op = .call { callee := .builtin .append, args := #[s, x], argTypes := #[25, 25] })
    (B g n cap : Nat) (L : List Value) (G N C : Nat) (hs : a.eval s = .slice (some ⟨g, 0, none⟩) n cap) (hown : OwnV w B g n cap L) (hx : a.eval x = .slice (some ⟨p, 0, none⟩) 1 1)
    (hl : n ≤ 1000000) (hB : B ≤ w.heap.size)
    (h : ∀ g' cap' w', OwnV w' B g' (n + 1) cap' (L ++ [.slice (some ⟨G, 0, none⟩) N C]) → w.grownBy w' (some g) → B ≤ g' → (g' = g ∨ w.heap.size ≤ g') → wpList Try.prog ops Q rest (a.put o.dst (.slice (some ⟨g', 0, none⟩) (n + 1) cap')) w') : wpList Try.prog ops Q (o :: rest) a (w.alloc (.cells #[.slice (some ⟨G, 0, none⟩) N C] 22)) := by
  subst hp
  exact wpList_tG w hgd s x ho B g n cap L G N C hs hown hx hl hB h
set_option maxRecDepth 100000 in
set_option maxHeartbeats 3200000 in
theorem dpk_any (a : Option Addr) (len cap : Nat) (W : World) (hl2 : len ≤ 4096) (hr : RdB W W.heap.size a len) :
    Calls Try.prog 5 #[.slice a len cap] W (AnK W) := by
  have hlen : len ≤ 9223372036854775807 := by omega
  have hr' := hide hr
  go_enter Try.func5, Try.ntmps5
  go_wp2_with fail
  refine (new_any a len cap W hlen (by omega) hr).mono ?_
  rintro e w1 ⟨g, rfl, hg0, hc1, hb1⟩
  have hgl := hc1.lt
  have hc1 := hide hc1
  have hb1 := hide hb1
  clear hr
  go_wp2_with fail
  refine (dnm_any W.heap.size g a len cap w1 hg0 (unhide hb1).size hlen (unhide hc1) (rdb_later (unhide hr') (unhide hb1))).mono ?_
  rintro e w2 ⟨gn, n, cn, A, gb, cb, vs, ts, rfl, hn6, S⟩
  have hB1 := (unhide hb1).size
  have S := hide S
  clear hc1
  go_wp2_with fail
  refine (once_any W.heap.size g a len cap 16 _ hg0 hlen (unhide S).ds.cur (unhide S).ds.rd (by omega)).mono ?_
  rintro e w3 ⟨v, rfl, k1, g1⟩
  have S1 := hide ((unhide S).step hg0 hgl k1 g1)
  clear k1 g1 S
  cases v with
  | false =>
    go_wp2
    go_ret2
    exact AnK.mk (unhide S1) (unhide hb1) hg0 (by omega) (by omega)
  | true =>
  go_wp2_with fail
  refine (below_any W.heap.size g a len cap 3 _ hg0 hlen (unhide S1).ds.cur (unhide S1).ds.rd (by omega)).mono ?_
  rintro e w4 ⟨x, rfl, x0, x1, k1, g1⟩
  have S2 := hide ((unhide S1).step hg0 hgl k1 g1)
  clear k1 g1 S1
  obtain rfl | rfl | rfl : x = 0 ∨ x = 1 ∨ x = 2 := by omega
  · clear x0 x1
    go_wp2_with (with_reducible refine wpList_sG w4 rfl _ _ rfl w1.heap.size gn n cn A ⟨#[109, 111, 114, 101]⟩ rfl (unhide S2).on rfl (by omega) (unhide S2).size ?_)
    intro g' c' w' o' b' q1 q2
    have S5 := hide ((unhide S2).appN hB1 hgl o' b' (by decide))
    clear o' b' q1 q2 S2
    go_wp2
    go_ret2
    exact AnK.mk (unhide S5) (unhide hb1) hg0 (by omega) (by omega)
  · clear x0 x1
    have hla := hide (fun q hq => lit_s3 (w := w4) (T := 9) (a0 := ⟨#[]⟩) (a1 := ⟨#[97, 45, 98]⟩) (a2 := ⟨#[48, 49, 50, 51, 52, 53, 54, 55, 56, 57, 48, 49, 50, 51, 52, 53, 54, 55, 56, 57, 48, 49, 50, 51, 52, 53, 54, 55, 56, 57, 48, 49, 50, 51, 52, 53, 54, 55, 56, 57]⟩) (by decide) q hq)
    have S3 := hide ((unhide S2).later hg0 ((Below.refl w4.heap.size w4).alloc (Nat.le_refl _) (.cells #[.string ⟨#[]⟩, .string ⟨#[97, 45, 98]⟩, .string ⟨#[48, 49, 50, 51, 52, 53, 54, 55, 56, 57, 48, 49, 50, 51, 52, 53, 54, 55, 56, 57, 48, 49, 50, 51, 52, 53, 54, 55, 56, 57, 48, 49, 50, 51, 52, 53, 54, 55, 56, 57]⟩] 9)))
    have hsz := (unhide S2).size
    clear S2
    go_wp2_with fail
    generalize w4.alloc _ = Y at *
    refine (below_any W.heap.size g a len cap 3 _ hg0 hlen (unhide S3).ds.cur (unhide S3).ds.rd (by omega)).mono ?_
    rintro e w5 ⟨x, rfl, x0, x1, k1, g1⟩
    obtain ⟨q, rfl⟩ := Int.eq_ofNat_of_zero_le x0
    obtain ⟨s, hs7, hv⟩ := unhide hla q (by omega)
    have hv1 := grown_cell g1 (by omega) hv
    have S4 := hide ((unhide S3).step hg0 hgl k1 g1)
    clear hv k1 g1 S3 hla
    go_wp2_with (with_reducible refine wpList_sG w5 rfl _ _ rfl w1.heap.size gn n cn A s rfl (unhide S4).on rfl (by omega) (unhide S4).size ?_)
    intro g' c' w' o' b' q1 q2
    have S5 := hide ((unhide S4).appN hB1 hgl o' b' hs7)
    clear o' b' q1 q2 S4 hv1
    have oT := hide (ownB_one w' (B := w1.heap.size) 1 (unhide S5).size)
    have S6 := hide ((unhide S5).later hg0 ((Below.refl w'.heap.size w').alloc (Nat.le_refl _) (.cells #[.int .u8 1] 5)))
    have hY : (w'.alloc (.cells #[.int .u8 1] 5)).heap.size = w'.heap.size + 1 := by simp
    have hY := hide hY
    go_wp2_with (with_reducible refine wpList_tG2 (w'.alloc (.cells #[.int .u8 1] 5)) (w'.heap.size + 1) (unhide hY) rfl _ _ rfl w1.heap.size gb n cb vs w'.heap.size 1 1 rfl (unhide S6).ob rfl (by omega) (unhide S6).size ?_)
    intro g6 c6 w7 o6 b6 q3 q4
    have S7 := hide ((unhide S6).appB hB1 hgl (t := [1]) o6 b6 (unhide oT) (by intro x hx; simp at hx; omega) (by decide))
    clear o6 b6 q3 q4 S6 oT S5
    go_wp2
    go_ret2
    exact AnK.mk (unhide S7) (unhide hb1) hg0 (by omega) (by omega)
  · clear x0 x1
    go_wp2
    go_loopw [5, 6] (fun u v wr => ∃ (n gn cn gb cb : Nat) (A : List ByteArray) (vs : List Value) (ts : List (List Int)), n ≤ 102 ∧ u = .slice (some ⟨gn, 0, none⟩) n cn ∧ v = .slice (some ⟨gb, 0, none⟩) n cb ∧ Hid (NS w1 W.heap.size g a len cap wr gn n cn A gb n cb vs ts)) (fun u _ _ => 102 - lenV u)
    case atStart => exact ⟨n, gn, cn, gb, cb, A, vs, ts, by omega, rfl, rfl, S2⟩
    case round =>
      clear S2
      obtain ⟨n, gn, cn, gb, cb, A, vs, ts, hn, rfl, rfl, S⟩ := hrel
      go_wp2_with fail
      refine (below_any W.heap.size g a len cap 2 _ hg0 hlen (unhide S).ds.cur (unhide S).ds.rd (by omega)).mono ?_
      rintro e w5 ⟨x, rfl, x0, x1, k1, g1⟩
      have S4 := hide ((unhide S).step hg0 hgl k1 g1)
      clear k1 g1 S
      by_cases hlt : (n : Int) < 100 + x
      rotate_left
      · have gg : decide ((n : Int) < 100 + x) = false := by simp; omega
        obtain ⟨i0, hi, hz0, hz1, hz2⟩ := info_parts infoV
        obtain ⟨g6, c6, w6, hrun, ho, hgr⟩ := run_append_ownz (P := Try.prog) w5 25 3 25 22 i0 (.slice none 0 0) .i64 .i64 Try.underlying25 Try.underlying3 hi hz0 hz1 hz2 rfl rfl w1.heap.size gb n cb vs (unhide S4).ob 3 (by omega) (by omega) (unhide S4).size
        have S5 := hide ((unhide S4).cutZ hB1 hgl ho hgr)
        have hcp : n ≤ c6 := Nat.le_trans (Nat.le_add_right _ _) (own_capge ho)
        have hcpI : (n : Int) ≤ c6 := by omega
        clear ho hgr S4 hi hz0 hz1 hz2
        have hrun := hide hrun
        go_wp2_with (at_builtin; refine Lib.wpList_append_run _ rfl _ _ _ _ rfl _ _ rfl rfl _ _ (unhide hrun) ?_)
        go_wp2
        go_ret2
        exact AnK.mk (unhide S5) (unhide hb1) hg0 (by omega) (by omega)
      have gg : decide ((n : Int) < 100 + x) = true := by simp; omega
      go_wp2_with fail
      refine (sint_anyD n _ (by omega)).mono ?_
      rintro e w6 ⟨rfl, hb6⟩
      have S5 := hide ((unhide S4).later hg0 hb6)
      have hs7 := hide (nstr_len (k := n) (by omega))
      have hcat : ¬ 9223372036854775807 < (⟨#[110]⟩ : ByteArray).size + (⟨(Pl.dec n).toArray⟩ : ByteArray).size := by
        have := nstr_len (k := n) (by omega)
        rw [ByteArray.size_append] at this
        omega
      clear hb6 S4
      generalize hD : (⟨(Pl.dec n).toArray⟩ : ByteArray) = dS at *
      obtain ⟨s9, hs9⟩ : ∃ s, (⟨#[110]⟩ : ByteArray) ++ dS = s := ⟨_, rfl⟩
      rw [hs9] at hs7
      go_wp2_with (refine wpList_sG w6 rfl _ _ rfl w1.heap.size gn n cn A s9 rfl (unhide S5).on rfl (by omega) (unhide S5).size ?_)
      intro g' c' w' o' b' q1 q2
      have S6 := hide ((unhide S5).appN hB1 hgl o' b' (unhide hs7))
      clear o' b' q1 q2 S5 hs7 hcat hD
      have oT := hide (ownB_lit0 w' (B := w1.heap.size) (unhide S6).size)
      have S7 := hide ((unhide S6).later hg0 ((Below.refl w'.heap.size w').alloc (Nat.le_refl _) (.cells #[] 5)))
      clear S6
      have hY : (w'.alloc (.cells #[] 5)).heap.size = w'.heap.size + 1 := by simp
      have hY := hide hY
      go_wp2_with (with_reducible refine wpList_tG2 (w'.alloc (.cells #[] 5)) (w'.heap.size + 1) (unhide hY) rfl _ _ rfl w1.heap.size gb n cb vs w'.heap.size 0 0 rfl (unhide S7).ob rfl (by omega) (unhide S7).size ?_)
      intro g6 c6 w7 o6 b6 q3 q4
      have S8 := hide ((unhide S7).appB hB1 hgl (t := []) o6 b6 (unhide oT) (by intro x hx; simp at hx) (by decide))
      clear o6 b6 q3 q4 S7 oT
      go_wp2
      go_roundw
      case rel => exact ⟨n + 1, g', c', g6, c6, _, _, _, by omega, by go_num, by go_num, S8⟩
      case measure => simp [lenV]; omega
end Go.Proofs.Ytghglpcfpokmhaa

set_option linter.unusedVariables false
set_option linter.unusedSimpArgs false
namespace Go.Proofs.Ytghglpcfpokmhaa
open Go.RowKit
theorem bef_asym {a b : ByteArray} (h : bef a b = true) : bef b a = false := by
  cases e : bef b a with
  | false => rfl
  | true => have := bef_trans h e; rw [bef_irr] at this; cases this
theorem pkQ_ok {ns : List ByteArray} {ts : List (List Int)} {L : List Kl} (h : PkQ ns ts L true) : pOk L = true := by
  rcases h with ⟨_, g, hp, hr⟩ | ⟨h, _⟩
  · have hk : L.Pairwise kle := List.Pairwise.imp (fun {a b} hab => bef_asym hab) hr
    rcases pk_impl g.len g.few hp hk with ⟨h1, _⟩ | ⟨_, _, h3⟩
    · exact h1
    · exact absurd g h3
  · cases h
theorem pkL_at' {ns : List ByteArray} {ts : List (List Int)} {y : Kl} (h : y ∈ pkL ns ts) : ∃ (j : Nat) (n : ByteArray) (t : List Int), ns[j]? = some n ∧ ts[j]? = some t ∧ y = ass n t := by
  obtain ⟨j, hj⟩ := List.getElem?_of_mem h
  have hlt := (List.getElem?_eq_some_iff.1 hj).1
  simp only [pkL, List.length_zipWith] at hlt
  have e1 : ns[j]? = some (ns[j]'(by omega)) := List.getElem?_eq_getElem (by omega)
  have e2 : ts[j]? = some (ts[j]'(by omega)) := List.getElem?_eq_getElem (by omega)
  simp only [pkL, List.getElem?_zipWith, e1, e2] at hj
  exact ⟨j, _, _, e1, e2, (Option.some.inj hj).symm⟩
theorem nodup_at {ns : List ByteArray} (h : ns.Nodup) {i j : Nat} {n : ByteArray} (hi : ns[i]? = some n) (hj : ns[j]? = some n) : i = j := by
  obtain ⟨h1, e1⟩ := List.getElem?_eq_some_iff.1 hi
  obtain ⟨h2, e2⟩ := List.getElem?_eq_some_iff.1 hj
  rcases Nat.lt_trichotomy i j with hlt | heq | hgt
  · exact absurd (e1.trans e2.symm) (List.pairwise_iff_getElem.1 h i j h1 h2 hlt)
  · exact heq
  · exact absurd (e2.trans e1.symm) (List.pairwise_iff_getElem.1 h j i h2 h1 hgt)
/-- what is told of the asset of place j, whatever its body is now -/
theorem vcode_own {ns : List ByteArray} {ts : List (List Int)} (h : ns.Nodup) {j : Nat} {n : ByteArray} {t u : List Int} (hn : ns[j]? = some n) (hu : ts[j]? = some u) : vcode ns ts (ass n t) = vone (ass n t) u :=
  vcode_at (k := j) (n := n) (fun i m hi hm => by
    cases e : (m.toList == (ass n t).1.toList) with
    | false => rfl
    | true =>
      have e1 : m = n := nmEq e
      subst e1
      have := nodup_at h hm hn
      omega) hn (by simp [ass]) hu
theorem vone_own (n : ByteArray) (t : List Int) : vone (ass n t) t = 0 := by simp [vone, ass]
theorem vfy_self {ns : List ByteArray} {ts : List (List Int)} {L : List Kl} (h : PkQ ns ts L true) : vfy L ns ts = List.replicate L.length 0 := by
  have hok := pkQ_ok h
  rcases h with ⟨_, g, hp, hr⟩ | ⟨h, _⟩
  · rw [vfy_ok hok g.len]
    apply List.eq_replicate_iff.2
    refine ⟨by simp, fun b hb => ?_⟩
    obtain ⟨y, hy, rfl⟩ := List.mem_map.1 hb
    obtain ⟨j, n, t, h1, h2, rfl⟩ := pkL_at' (hp.mem_iff.1 hy)
    rw [vcode_own g.one h1 h2, vone_own]
  · cases h
theorem pkQ_length {ns : List ByteArray} {ts : List (List Int)} {L : List Kl} (h : PkQ ns ts L true) : L.length = ns.length := by
  rcases h with ⟨_, g, hp, hr⟩ | ⟨h, _⟩
  · rw [hp.length_eq, pkL_len g.len]
  · cases h
theorem hasK_self {l : List Kl} {x : Kl} (h : x ∈ l) : hasK l x = true := by
  unfold hasK; rw [List.any_eq_true]; exact ⟨x, h, kEq_iff.2 rfl⟩
theorem hasN_self {l : List Kl} {x : Kl} (h : x ∈ l) : hasN l x.1 = true := by
  unfold hasN; rw [List.any_eq_true]; exact ⟨x, h, by simp⟩
theorem updS_self (l : List Kl) : updS l l = [] := by
  unfold updS
  split
  · unfold sendL
    rw [List.map_eq_nil_iff, List.filter_eq_nil_iff]
    intro x hx
    simp [hasK_self hx]
  · rfl
theorem updG_self (l : List Kl) : updG l l = [] := by
  unfold updG
  split
  · unfold goneL
    rw [List.map_eq_nil_iff, List.filter_eq_nil_iff]
    intro x hx
    simp [hasN_self hx]
  · rfl
/-! one byte turned -/
theorem x16 : ∀ n : Nat, n < 256 → (bits .xor .u8 (n : Int) 16 ≠ (n : Int) ∧ 0 ≤ bits .xor .u8 (n : Int) 16 ∧ bits .xor .u8 (n : Int) 16 ≤ 255) := by decide +kernel
theorem x16_of {x : Int} (h0 : 0 ≤ x) (h1 : x ≤ 255) : bits .xor .u8 x 16 ≠ x ∧ 0 ≤ bits .xor .u8 x 16 ∧ bits .xor .u8 x 16 ≤ 255 := by
  obtain ⟨n, rfl⟩ := Int.eq_ofNat_of_zero_le h0
  exact x16 n (by omega)
theorem dgf_inj {h1 h2 z : Int} (a1 : 0 ≤ h1) (a2 : h1 < 1000000007) (b1 : 0 ≤ h2) (b2 : h2 < 1000000007) (h : h1 ≠ h2) : dgf h1 z ≠ dgf h2 z := by
  unfold dgf
  omega
theorem fold_inj : ∀ (l : List Int) (h1 h2 : Int), 0 ≤ h1 → h1 < 1000000007 → 0 ≤ h2 → h2 < 1000000007 → h1 ≠ h2 → l.foldl dgf h1 ≠ l.foldl dgf h2
  | [], _, _, _, _, _, _, h => h
  | z :: l, h1, h2, a1, a2, b1, b2, h => by
    refine fold_inj l _ _ ?_ ?_ ?_ ?_ (dgf_inj a1 a2 b1 b2 h)
    all_goals unfold dgf; omega
theorem dgf_byte {h x y : Int} (x0 : 0 ≤ x) (x1 : x ≤ 255) (y0 : 0 ≤ y) (y1 : y ≤ 255) (hne : x ≠ y) : dgf h x ≠ dgf h y := by
  unfold dgf
  omega
theorem dig_turned {t : List Int} {p : Nat} {x y : Int} (hl : t.length ≤ 40000) (hp : t[p]? = some x) (x0 : 0 ≤ x) (x1 : x ≤ 255) (y0 : 0 ≤ y) (y1 : y ≤ 255) (hne : y ≠ x) : dig (t.set p y) ≠ dig t := by
  have hlt := (List.getElem?_eq_some_iff.1 hp).1
  unfold dig
  rw [List.take_of_length_le (by simpa using hl), List.take_of_length_le hl]
  have e1 : t = t.take p ++ x :: t.drop (p + 1) := by
    have := List.take_append_drop p t
    rw [List.drop_eq_getElem_cons hlt, (List.getElem?_eq_some_iff.1 hp).2] at this
    exact this.symm
  have e2 : t.set p y = t.take p ++ y :: t.drop (p + 1) := by
    rw [List.set_eq_take_append_cons_drop, if_pos hlt]
  rw [e2]
  conv => rhs; rw [e1]
  unfold dgs
  rw [List.foldl_append, List.foldl_append, List.foldl_cons, List.foldl_cons]
  have hb : ∀ h z, 0 ≤ dgf h z ∧ dgf h z < 1000000007 := fun h z => by unfold dgf; omega
  exact fold_inj _ _ _ (hb _ _).1 (hb _ _).2 (hb _ _).1 (hb _ _).2 (dgf_byte y0 y1 x0 x1 hne)
/-- the assets where one body is another -/
def bend (n0 : ByteArray) (u : List Int) (y : Kl) : Kl := if (y.1.toList == n0.toList) = true then ass n0 u else y
theorem bend_nm (n0 : ByteArray) (u : List Int) (y : Kl) : (bend n0 u y).1 = y.1 := by
  unfold bend
  split
  · rename_i h; exact (nmEq h).symm
  · rfl
section
variable {ns : List ByteArray} {ts : List (List Int)} {L M : List Kl} {n0 : ByteArray} {t0 u : List Int}
theorem pkL_bend (hlen : ns.length = ts.length) (hnd : ns.Nodup) (h0 : ns[0]? = some n0) : pkL ns (ts.set 0 u) = (pkL ns ts).map (bend n0 u) := by
  apply List.ext_getElem?
  intro j
  rw [List.getElem?_map]
  simp only [pkL, List.getElem?_zipWith]
  by_cases hj : j < ns.length
  · have e1 : ns[j]? = some ns[j] := List.getElem?_eq_getElem hj
    have e2 : ts[j]? = some (ts[j]'(by omega)) := List.getElem?_eq_getElem (by omega)
    rcases Nat.eq_zero_or_pos j with rfl | hpos
    · have e3 : (ts.set 0 u)[0]? = some u := by rw [List.getElem?_set_self]; omega
      have e4 : ns[0] = n0 := by rw [e1] at h0; exact Option.some.inj h0
      simp only [e1, e2, e3, Option.map_some]
      simp [bend, ass, e4]
    · have e3 : (ts.set 0 u)[j]? = ts[j]? := by rw [List.getElem?_set_ne (by omega)]
      simp only [e3, e1, e2, Option.map_some]
      have hne : ((ass ns[j] ts[j]).1.toList == n0.toList) = false := by
        cases e : ((ass ns[j] ts[j]).1.toList == n0.toList) with
        | false => rfl
        | true =>
          have : ns[j] = n0 := nmEq e
          have := nodup_at hnd (e1.trans (congrArg some this)) h0
          omega
      simp only [bend, hne]
      rfl
  · have e1 : ns[j]? = none := List.getElem?_eq_none (by omega)
    simp [e1]
theorem pkQ_bend (h : PkQ ns ts L true) (h0 : ns[0]? = some n0) (ht : ts[0]? = some t0) (hu : u.length = t0.length) : PkQ ns (ts.set 0 u) (L.map (bend n0 u)) true := by
  rcases h with ⟨_, g, hp, hr⟩ | ⟨h, _⟩
  · refine .inl ⟨rfl, ⟨by simpa using g.len, g.few, g.nms, fun t hm => ?_, g.one⟩, ?_, ?_⟩
    · rcases List.mem_or_eq_of_mem_set hm with hm | rfl
      · exact g.bds t hm
      · rw [hu]; exact g.bds t0 (List.mem_of_getElem? ht)
    · rw [pkL_bend g.len g.one h0]; exact hp.map _
    · unfold Rise
      rw [List.pairwise_map]
      exact List.Pairwise.imp (fun {a b} hab => by rw [bend_nm, bend_nm]; exact hab) hr
  · cases h
/-- what the package tells of the bent bodies -/
theorem vfy_bent (h : PkQ ns ts L true) (h0 : ns[0]? = some n0) (ht : ts[0]? = some t0) (hu : u.length = t0.length) (hd : dig u ≠ dig t0) : vfy L ns (ts.set 0 u) = L.map fun y => if (y.1.toList == n0.toList) = true then 3 else 0 := by
  have hok := pkQ_ok h
  rcases h with ⟨_, g, hp, hr⟩ | ⟨h, _⟩
  · rw [vfy_ok hok (by simpa using g.len)]
    apply List.map_congr_left
    intro y hy
    obtain ⟨j, n, t, h1, h2, rfl⟩ := pkL_at' (hp.mem_iff.1 hy)
    have hlen := g.len
    have hj := (List.getElem?_eq_some_iff.1 h2).1
    rcases Nat.eq_zero_or_pos j with rfl | hpos
    · have e3 : (ts.set 0 u)[0]? = some u := by rw [List.getElem?_set_self]; omega
      rw [h0] at h1
      rw [ht] at h2
      cases h1
      cases h2
      rw [vcode_own g.one h0 e3]
      have e4 : ((u.length : Int) != (ass n0 t0).2.1) = false := by simp [ass, hu]
      have e5 : (dig u != (ass n0 t0).2.2) = true := by simp [ass]; exact hd
      rw [vone3 e4 e5]
      simp [ass]
    · have e3 : (ts.set 0 u)[j]? = some t := by rw [List.getElem?_set_ne (by omega)]; exact h2
      rw [vcode_own g.one h1 e3, vone_own]
      have hne : ((ass n t).1.toList == n0.toList) = false := by
        cases e : ((ass n t).1.toList == n0.toList) with
        | false => rfl
        | true =>
          have : n = n0 := nmEq e
          subst this
          have := nodup_at g.one h1 h0
          omega
      rw [hne]
      rfl
  · cases h
/-- what is sent for the bent bodies, and what goes -/
theorem upd_bent (h : PkQ ns ts L true) (h0 : ns[0]? = some n0) (ht : ts[0]? = some t0) (hu : u.length = t0.length) (hd : dig u ≠ dig t0) (hM : PkQ ns (ts.set 0 u) (L.map (bend n0 u)) true) : updS L (L.map (bend n0 u)) = [n0] ∧ updG L (L.map (bend n0 u)) = [] := by
  have hok := pkQ_ok h
  have hok2 := pkQ_ok hM
  have hg : updG L (L.map (bend n0 u)) = [] := by
    unfold updG
    rw [hok, hok2]
    simp only [Bool.and_self, if_true]
    unfold goneL
    rw [List.map_eq_nil_iff, List.filter_eq_nil_iff]
    intro x hx
    have : hasN (L.map (bend n0 u)) x.1 = true := by
      unfold hasN
      rw [List.any_eq_true]
      exact ⟨bend n0 u x, List.mem_map.2 ⟨x, hx, rfl⟩, by rw [bend_nm]; simp⟩
    simp [this]
  refine ⟨?_, hg⟩
  unfold updS
  rw [hok, hok2]
  simp only [Bool.and_self, if_true]
  rcases h with ⟨_, g, hp, hr⟩ | ⟨h, _⟩
  · have hlen := g.len
    have hz : ∀ y ∈ L, (!hasK L (bend n0 u y)) = (y.1.toList == n0.toList) := fun y hy => by
      cases e : (y.1.toList == n0.toList) with
      | false =>
        have : bend n0 u y = y := by unfold bend; rw [e]; rfl
        rw [this, hasK_self hy]; rfl
      | true =>
        have e1 : bend n0 u y = ass n0 u := by unfold bend; rw [e]; rfl
        rw [e1]
        have : hasK L (ass n0 u) = false := hasK_no fun j x hx => by
          cases e2 : kEq (ass n0 u) x with
          | false => rfl
          | true =>
            have e3 : ass n0 u = x := kEq_iff.1 e2
            subst e3
            obtain ⟨i, n, t, h1, h2, h3⟩ := pkL_at' (hp.mem_iff.1 (List.mem_of_getElem? hx))
            have e4 : n0 = n := congrArg (·.1) h3
            subst e4
            have := nodup_at g.one h1 h0
            subst this
            rw [ht] at h2
            cases h2
            exact absurd (congrArg (·.2.2) h3) hd
        rw [this]; rfl
    have hs : sendL L (L.map (bend n0 u)) = (L.filter fun y => y.1.toList == n0.toList).map (·.1) := by
      unfold sendL
      rw [List.filter_map, List.map_map]
      have e : L.filter ((fun x => !hasK L x) ∘ bend n0 u) = L.filter fun y => y.1.toList == n0.toList := by
        apply List.filter_congr
        intro y hy
        exact hz y hy
      rw [e]
      apply List.map_congr_left
      intro y _
      exact bend_nm n0 u y
    rw [hs]
    have hin : ∃ y ∈ L, y.1 = n0 := by
      have hj : 0 < ns.length := (List.getElem?_eq_some_iff.1 h0).1
      have : ass n0 t0 ∈ pkL ns ts := by
        apply List.mem_of_getElem? (i := 0)
        simp [pkL, List.getElem?_zipWith, h0, ht]
      exact ⟨_, hp.mem_iff.2 this, rfl⟩
    have hnd : (L.map (·.1)).Nodup := List.Pairwise.map _ (fun a b hab e => by rw [e, bef_irr] at hab; cases hab) hr
    have key : ∀ (K : List Kl), (K.map (·.1)).Nodup → ((∃ y ∈ K, y.1 = n0) → (K.filter fun y => y.1.toList == n0.toList).map (·.1) = [n0]) ∧ ((¬ ∃ y ∈ K, y.1 = n0) → (K.filter fun y => y.1.toList == n0.toList).map (·.1) = []) := by
      intro K
      induction K with
      | nil => intro _; exact ⟨fun ⟨y, hy, _⟩ => by simp at hy, fun _ => rfl⟩
      | cons x K ih =>
        intro hk
        rw [List.map_cons, List.nodup_cons] at hk
        obtain ⟨i1, i2⟩ := ih hk.2
        by_cases e : x.1 = n0
        · have e1 : (x.1.toList == n0.toList) = true := by rw [e]; simp
          have hno : ¬ ∃ y ∈ K, y.1 = n0 := fun ⟨y, hy, h⟩ => hk.1 (by rw [e, ← h]; exact List.mem_map_of_mem hy)
          refine ⟨fun _ => ?_, fun h => absurd ⟨x, List.mem_cons_self .., e⟩ h⟩
          rw [List.filter_cons]
          simp only [e1, if_true, List.map_cons]
          rw [i2 hno, e]
        · have e1 : (x.1.toList == n0.toList) = false := by
            cases h : (x.1.toList == n0.toList) with
            | false => rfl
            | true => exact absurd (nmEq h) e
          refine ⟨fun ⟨y, hy, h⟩ => ?_, fun h => ?_⟩
          · rw [List.filter_cons]
            simp only [e1, if_false, Bool.false_eq_true]
            refine i1 ⟨y, ?_, h⟩
            rcases List.mem_cons.1 hy with rfl | hy
            · exact absurd h e
            · exact hy
          · rw [List.filter_cons]
            simp only [e1, if_false, Bool.false_eq_true]
            exact i2 fun ⟨y, hy, h'⟩ => h ⟨y, List.mem_cons_of_mem _ hy, h'⟩
    exact (key L hnd).1 hin
  · cases h
end
end Go.Proofs.Ytghglpcfpokmhaa
