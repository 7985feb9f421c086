/-
  Bytes in memory, and what is put behind a row of one's own; contracts of the law's own functions. Nothing that was there is written.
-/
import Derived.Test.YtmhciigjjamjkaaFCopy
import Derived.Laws.AppendOwnNone
namespace Go.Proofs.Ytmhciigjjamjkaa
open Go.RowKit
set_option linter.unusedVariables false
set_option linter.unusedSimpArgs false

def Row (own : Bool) (lo hi : Nat) (w : World) (a : Option Addr) (zs : List Int) : Prop :=
  ∀ j z, zs[j]? = some z → ∃ b o, a = some ⟨b, o, none⟩ ∧ lo ≤ b ∧ b < hi ∧ w.cell? ⟨b, o + j, none⟩ = some (.int .u8 z) ∧ 0 ≤ z ∧ z ≤ 255 ∧ (own = true → w.frozen? ⟨b, o + j, none⟩ = false)

theorem Row.mono {own : Bool} {lo hi lo' hi' : Nat} {w : World} {a : Option Addr} {zs : List Int} (h : Row own lo hi w a zs) (h1 : lo' ≤ lo) (h2 : hi ≤ hi') : Row own lo' hi' w a zs := by
  intro j z hz
  obtain ⟨b, o, e, i1, i2, r⟩ := h j z hz
  exact ⟨b, o, e, by omega, by omega, r⟩

theorem Row.read {lo hi : Nat} {w : World} {a : Option Addr} {zs : List Int} (h : Row true lo hi w a zs) : Row false lo hi w a zs := by
  intro j z hz
  obtain ⟨b, o, e, i1, i2, hc, z0, z1, _⟩ := h j z hz
  exact ⟨b, o, e, i1, i2, hc, z0, z1, fun h => by cases h⟩

def u8 (z : Int) : Value := .int .u8 z

theorem info5 : (Try.prog.info? 5).map (fun i => (i.zero, i.size, i.bytes)) = some (some (.int .u8 0), 1, 1) := by kernel_rfl

theorem row_of_own {w : World} {B g n cap : Nat} {zs : List Int} (h : w.ownsRow B 5 1 (.slice (some ⟨g, 0, none⟩) n cap) n (zs.map u8)) (hz : ∀ z ∈ zs, 0 ≤ z ∧ z ≤ 255) : Row true g (g + 1) w (some ⟨g, 0, none⟩) zs := by
  intro j z hj
  have hl : zs.length = n := by have := h.1; simpa using this
  have hjl : j < zs.length := (List.getElem?_eq_some_iff.1 hj).1
  have hc := h.cellAt j (by omega)
  rw [List.getElem?_map, hj] at hc
  have hm := hz z (List.mem_of_getElem? hj)
  exact ⟨g, 0, rfl, by omega, by omega, by rw [Nat.zero_add]; exact hc, hm.1, hm.2, fun _ => by rw [Nat.zero_add]; exact h.frozenAt j⟩

theorem Row.bd {own : Bool} {lo hi : Nat} {w : World} {a : Option Addr} {zs : List Int} (h : Row own lo hi w a zs) : ∀ z ∈ zs, 0 ≤ z ∧ z ≤ 255 := by
  intro z hz
  obtain ⟨j, hj⟩ := List.getElem?_of_mem hz
  obtain ⟨b, o, _, _, _, _, z0, z1, _⟩ := h j z hj
  exact ⟨z0, z1⟩

theorem row_news {Hh : Nat} {w : World} {ad : Addr} {zs : List Int} (hr : Row false 0 Hh w (some ad) zs) : ∀ j u, (zs.map u8)[j]? = some u → w.cell? (ad.add j) = some u := by
  intro j u hj
  rw [List.getElem?_map] at hj
  obtain ⟨z, hz, rfl⟩ := Option.map_eq_some_iff.1 hj
  obtain ⟨b, o, e, _, _, hc, _⟩ := hr j z hz
  injection e with e
  subst e
  rw [Addr.add_lit]; exact hc

theorem u8_one (zs : List Int) : ∀ u ∈ zs.map u8, u.oneCell' = true := by
  intro u hu
  obtain ⟨z, _, rfl⟩ := List.mem_map.1 hu
  rfl

theorem wp_bytes {o : Oper} {a : Act} {K : Act → World → Prop} {Q : Exit → Act → World → Prop} (w : World) (s x : Operand) (ho : o.op = .call { callee := .builtin .append, args := #[s, x], argTypes := #[22, 22] })
    (B n Hh : Nat) (v : Value) (xs : List Value) (hs : a.eval s = v) (hown : w.ownsRow B 5 1 v n xs) (ad : Addr) (m c : Nat) (zs : List Int) (hm : zs.length = m) (hx : a.eval x = .slice (some ad) m c) (hr : Row false 0 Hh w (some ad) zs) (hlen : n + m ≤ 1000000000) (hB : B ≤ w.heap.size)
    (h : ∀ v' w', w'.ownsRow B 5 1 v' (n + m) (xs ++ zs.map u8) → w.grownBy w' v.ownBlock → (v' = .slice none 0 0 ↔ v = .slice none 0 0 ∧ m = 0) → K (a.put o.dst v') w') : o.wp Try.prog a w K Q := by
  obtain ⟨i0, hi, hz0, hz1, hz2⟩ := info_parts info5
  exact wp_append_own w s x 22 ho B 5 i0 (.int .u8 0) 1 1 Try.underlying22 hi hz0 hz1 hz2 rfl (by decide) v n xs hs hown ad m c (zs.map u8) hx (by simp; omega) (row_news hr) (u8_one zs) (by unfold maxLen; omega) (by omega) hB h

theorem row_none {Hh : Nat} {w : World} {zs : List Int} (h : Row false 0 Hh w none zs) : zs = [] := by
  cases zs with
  | nil => rfl
  | cons z t =>
    obtain ⟨b, o, e, _⟩ := h 0 z rfl
    cases e

theorem wp_bytesO {o : Oper} {a : Act} {K : Act → World → Prop} {Q : Exit → Act → World → Prop} (w : World) (s x : Operand) (ho : o.op = .call { callee := .builtin .append, args := #[s, x], argTypes := #[22, 22] })
    (B n Hh : Nat) (v : Value) (xs : List Value) (hs : a.eval s = v) (hown : w.ownsRow B 5 1 v n xs) (ad : Option Addr) (m c : Nat) (zs : List Int) (hm : zs.length = m) (hx : a.eval x = .slice ad m c) (hr : Row false 0 Hh w ad zs) (hn : ad = none → c = 0) (hlen : n + m ≤ 1000000000) (hB : B ≤ w.heap.size)
    (h : ∀ v' w', w'.ownsRow B 5 1 v' (n + m) (xs ++ zs.map u8) → w.grownBy w' v.ownBlock → (v' = .slice none 0 0 ↔ v = .slice none 0 0 ∧ m = 0) → K (a.put o.dst v') w') : o.wp Try.prog a w K Q := by
  cases ad with
  | some ad => exact wp_bytes w s x ho B n Hh v xs hs hown ad m c zs hm hx hr hlen hB h
  | none =>
    have hz := row_none hr
    have hc := hn rfl
    subst hz
    subst hc
    have hm0 : m = 0 := by rw [← hm]; rfl
    subst hm0
    obtain ⟨i0, hi, hz0, hz1, hz2⟩ := info_parts info5
    have hrun := run_append_owned_none (P := Try.prog) (w := w) B 22 o.type 5 i0 1 Try.underlying22 hi v n xs hown
    unfold Oper.wp
    simp [execOp, ho, resolve, invoke, builtin, hs, hx, hrun, Result.andThen]
    exact h v w (by simpa using hown) (World.grownBy.refl _ _) (by simp)

theorem wpList_bytesO {ops : Array Oper} {rest : List Oper} {o : Oper} {a : Act} {Q : Exit → Act → World → Prop} (w : World) (hgd : o.guard = none) (s x : Operand) (ho : o.op = .call { callee := .builtin .append, args := #[s, x], argTypes := #[22, 22] })
    (B n Hh : Nat) (v : Value) (xs : List Value) (hs : a.eval s = v) (hown : w.ownsRow B 5 1 v n xs) (ad : Option Addr) (m c : Nat) (zs : List Int) (hm : zs.length = m) (hx : a.eval x = .slice ad m c) (hr : Row false 0 Hh w ad zs) (hn : ad = none → c = 0) (hlen : n + m ≤ 1000000000) (hB : B ≤ w.heap.size)
    (h : ∀ v' w', w'.ownsRow B 5 1 v' (n + m) (xs ++ zs.map u8) → w.grownBy w' v.ownBlock → (v' = .slice none 0 0 ↔ v = .slice none 0 0 ∧ m = 0) → wpList Try.prog ops Q rest (a.put o.dst v') w') : wpList Try.prog ops Q (o :: rest) a w :=
  wpList_plain hgd fun _ hK => wp_bytesO w s x ho B n Hh v xs hs hown ad m c zs hm hx hr hn hlen hB fun v' w' h2 h3 h4 => hK _ _ (h v' w' h2 h3 h4)

theorem Row.belowW {W w : World} {a : Option Addr} {zs : List Int} (h : Row false 0 W.heap.size W a zs) (hb : Below W.heap.size W w) : Row false 0 w.heap.size w a zs := by
  intro j z hz
  obtain ⟨b, o, e, h1, h2, hc, z0, z1, hf⟩ := h j z hz
  exact ⟨b, o, e, h1, Nat.lt_of_lt_of_le h2 hb.size, by rw [World.cell?_of_block (a := ⟨b, o + j, none⟩) (hb.block b h2)]; exact hc, z0, z1, fun h => by cases h⟩
theorem own_some {w : World} {B n : Nat} {e : TypeId} {m : Nat} {v : Value} {xs : List Value} (h : w.ownsRow B e m v n xs) (hn : 0 < n) : ∃ g c, v = .slice (some ⟨g, 0, none⟩) n c ∧ B ≤ g := by
  rcases h.2 with ⟨_, h0⟩ | ⟨g, c, cur, hv, hg, _⟩
  · omega
  · exact ⟨g, c, hv, hg⟩

set_option maxHeartbeats 400000 in
theorem big_any (a : Option Addr) (len cap : Nat) (v : Bool) (w : World) (hv : decide ((4096 : Int) < len) = v) :
    Calls Try.prog 4 #[.slice a len cap] w fun e w' => e = .returned (.bool v) ∧ w' = w := by
  subst hv
  go_enter Try.func4, Try.ntmps4
  go_wp2
  go_ret
  exact ⟨rfl, rfl⟩

set_option maxHeartbeats 800000 in
theorem pick_any (a : Option Addr) (cap : Nat) (zs : List Int) (m : Int) (w : World) (hl : zs.length ≤ 5000) (hm : 0 < m) (hr : Row false 0 w.heap.size w a zs) :
    Calls Try.prog 5 #[.slice a zs.length cap, .int .i64 m] w fun e w' => ∃ x, e = .returned (.int .i64 x) ∧ 0 ≤ x ∧ x < m ∧ w' = w := by
  have hr' := hide hr
  clear hr
  go_enter Try.func5, Try.ntmps5
  go_wp2
  go_loop [5, 6] (fun s t => ∃ (k : Nat) (q : Int), k ≤ zs.length ∧ t = .int .i64 k ∧ s = .int .i64 q ∧ 0 ≤ q ∧ q ≤ 1000003) (fun _ t => zs.length - (intOf t).toNat)
  case atStart => exact ⟨0, _, by omega, rfl, rfl, by omega, by omega⟩
  case round =>
    obtain ⟨k, q, hk, rfl, rfl, q0, q1⟩ := hrel
    by_cases hlt : k < zs.length
    · obtain ⟨b, o, rfl, _, hb, hc, z0, z1, _⟩ := unhide hr' k zs[k] (List.getElem?_eq_getElem hlt)
      generalize zs[k] = z at *
      go_wp2
      go_round
      case rel => exact ⟨k + 1, _, by omega, by go_num, rfl, Int.emod_nonneg _ (by omega), Int.le_of_lt (Int.emod_lt_of_pos _ (by omega))⟩
      case measure => simp [intOf]; omega
    · go_wp2
      go_ret
      exact ⟨_, rfl, Int.emod_nonneg _ (by omega), Int.emod_lt_of_pos _ hm, rfl⟩
end Go.Proofs.Ytmhciigjjamjkaa
