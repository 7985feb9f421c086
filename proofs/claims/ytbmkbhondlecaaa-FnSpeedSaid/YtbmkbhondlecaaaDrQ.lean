/-
  The model's draw of keys: its contract: a list of its own, whatever is in it.
-/
import Derived.Test.YtbmkbhondlecaaaDrC
import Derived.Test.YtbmkbhondlecaaaCopyY
namespace Go.Proofs.Ytbmkbhondlecaaa.Y
open Go.RowKit
open Go.Proofs.Ytbmkbhondlecaaa
set_option linter.unusedVariables false
set_option linter.unusedSimpArgs false

/-- one key more behind an owned list: all blocks but its row stand -/
theorem wpList_kg {T : TypeId} (hT : Try.prog.underlying T = some (.slice 31)) {ops : Array Oper} {rest : List Oper} {o : Oper} {a : Act} {Q : Exit → Act → World → Prop} {X : World} {B g n cap : Nat} {v1 v2 : Int} {L : List Ky} (hgd : o.guard = none) (s x : Operand) (ho : o.op = .call { callee := .builtin .append, args := #[s, x], argTypes := #[T, T] })
    (hs : a.eval s = .slice (some ⟨g, 0, none⟩) n cap) (hown : Own X B g n cap L) (E : Nat) (hE : X.heap.size = E) (hx : a.eval x = .slice (some ⟨E, 0, none⟩) 1 1) (hl : n ≤ 1000000)
    (h : ∀ g' cap' w', Own w' B g' (n + 1) cap' (L ++ [(v1, v2)]) → X.grownBy w' (some g) → B ≤ g' → wpList Try.prog ops Q rest (a.put o.dst (.slice (some ⟨g', 0, none⟩) (n + 1) cap')) w') : wpList Try.prog ops Q (o :: rest) a (X.alloc (.cells #[.int .i64 v1, .int .i64 v2] 31)) := by
  subst hE
  obtain ⟨i0, hi, hz0, hz1, hz2⟩ := info_parts infoY
  have hg := own_lt hown
  have hge := own_ge hown
  have hown2 : Own (X.alloc (.cells #[.int .i64 v1, .int .i64 v2] 31)) B g n cap L := ownsRow_below hown ((Below.refl X.heap.size X).alloc (Nat.le_refl _) _)
  refine wpList_append_lies _ hgd s x T ho B 31 i0 (.agg #[.int .i64 0, .int .i64 0]) 2 16 hT hi hz0 hz1 hz2 rfl (by decide) _ n (flY L) hs hown2 ⟨X.heap.size, 0, none⟩ 1 1 [iv v1, iv v2] hx rfl (Y_news (c := (v1, v2)) (heap_alloc_new X _)) (by intro u hu; simp at hu; rcases hu with rfl | rfl <;> rfl) (by decide) (by unfold maxLen; omega) (by omega) (by simp; omega) _ rfl ?_
  intro g' cap' w' h1 h2 h3 h4
  have h2' : (X.alloc (.cells #[.int .i64 v1, .int .i64 v2] 31)).grownBy w' (some g) := by simpa [Value.ownBlock] using h2
  refine h g' cap' w' (by show World.ownsRow _ _ _ _ _ _ _; rw [flY_append]; exact h1) ?_ ?_
  · exact ⟨h2'.os, h2'.tape, h2'.output, by have := h2'.size; simp at this; omega, fun k hk hne => (h2'.block k (by simp; omega) hne).trans (((Below.refl X.heap.size X).alloc (Nat.le_refl _) _).block k hk)⟩
  · rcases h3 with h3 | h3
    · simp [Value.ownBlock] at h3; omega
    · simp at h3; omega
/-- a drawn list: a list of its own; the cursor has moved -/
structure DR (w : World) (B g : Nat) (a : Option Addr) (len cap : Nat) (wr : World) (r c n : Nat) : Prop where
  own : ∃ L : List Ky, L.length = n ∧ Own wr w.heap.size r n c L
  ds : DS w B g a len cap wr
theorem ds_grown {w wr w1 : World} {B g r : Nat} {a : Option Addr} {len cap : Nat} (h : DS w B g a len cap wr) (hg : wr.grownBy w1 (some r)) (hr : w.heap.size ≤ r) (hgl : g < w.heap.size) (hB : B ≤ g) : DS w B g a len cap w1 := by
  have hgr : w.grownBy w1 (some g) := ⟨hg.os.trans h.gr.os, hg.tape.trans h.gr.tape, hg.output.trans h.gr.output, Nat.le_trans h.gr.size hg.size, fun k hk hn => (hg.block k (Nat.lt_of_lt_of_le hk h.gr.size) (by intro e; injection e with e; omega)).trans (h.gr.block k hk hn)⟩
  have hgw : g < wr.heap.size := Nat.lt_of_lt_of_le hgl h.gr.size
  refine ⟨h.cur.other (hg.block g hgw (by intro e; injection e with e; omega)), ?_, hgr⟩
  exact h.rd.grown hg (by omega)
theorem set_self {l : List Value} {k : Nat} {x : Value} (h : l[k]? = some x) : l.set k x = l := by
  obtain ⟨hk, rfl⟩ := List.getElem?_eq_some_iff.1 h
  simp
theorem own_s0 {w : World} {B r n c i : Nat} {L : List Ky} {v : Int} (h : Own w B r n c L) (hn : i < n) : ∃ L' : List Ky, L'.length = n ∧ Own (w.setCell ⟨r, i * 2, none⟩ (.int .i64 v)) B r n c L' := by
  have hl := own_len h
  refine ⟨L.set i (v, L[i].2), by simpa using hl, ?_⟩
  have h1 := (h.stored (i * 2) (iv v)).1
  have e : (flY L).set (i * 2) (iv v) = flY (L.set i (v, L[i].2)) := by
    rw [← flY_set (x := (v, L[i].2)) (by omega)]
    simp only
    symm
    apply set_self
    rw [List.getElem?_set_ne (by omega)]
    exact (flY_get (List.getElem?_eq_getElem (by omega))).2
  rw [e] at h1
  exact h1
theorem own_s1 {w : World} {B r n c i : Nat} {L : List Ky} {v : Int} (h : Own w B r n c L) (hn : i < n) : ∃ L' : List Ky, L'.length = n ∧ Own (w.setCell ⟨r, i * 2 + 1, none⟩ (.int .i64 v)) B r n c L' := by
  have hl := own_len h
  refine ⟨L.set i (L[i].1, v), by simpa using hl, ?_⟩
  have h1 := (h.stored (i * 2 + 1) (iv v)).1
  have e : (flY L).set (i * 2 + 1) (iv v) = flY (L.set i (L[i].1, v)) := by
    rw [← flY_set (x := (L[i].1, v)) (by omega)]
    simp only
    congr 1
    symm
    apply set_self
    exact (flY_get (List.getElem?_eq_getElem (by omega))).1
  rw [e] at h1
  exact h1
theorem set_grown (w : World) (r i : Nat) (v : Value) : w.grownBy (w.setCell ⟨r, i, none⟩ v) (some r) := grown_set (grown_refl w _)
theorem ds_alloc {w wr : World} {B g : Nat} {a : Option Addr} {len cap : Nat} (h : DS w B g a len cap wr) (hB : B ≤ g) (o : Obj) : DS w B g a len cap (wr.alloc o) := h.later hB ((Below.refl _ _).alloc (Nat.le_refl _) _)

set_option maxRecDepth 100000 in
set_option maxHeartbeats 6400000 in
theorem dky_any (B g : Nat) (a : Option Addr) (len cap : Nat) (w : World) (hB : B ≤ g) (hl : len ≤ 9223372036854775807) (hc : CurAt w g a len cap) (hr : RdB w B a len) :
    Calls Try.prog 35 #[.pointer (some ⟨g, 0, none⟩)] w fun e w' => ∃ r c n, e = .returned (.slice (some ⟨r, 0, none⟩) n c) ∧ n ≤ 400 ∧ w.heap.size ≤ r ∧ DR w B g a len cap w' r c n := by
  have hgl : g < w.heap.size := hc.lt
  have hD : Hid (DS w B g a len cap (w.alloc (.cells #[] 31))) := hide (ds_alloc ⟨hc, hr, grown_refl _ _⟩ hB _)
  have hO : Hid (Own (w.alloc (.cells #[] 31)) w.heap.size w.heap.size 0 0 []) := hide (own_lit0 w (Nat.le_refl _))
  have hrg : w.heap.size ≠ g := by omega
  clear hc hr
  go_enter Try.func35, Try.ntmps35
  go_wp2_with fail
  refine (below_any B g a len cap 5 _ hB hl (unhide hD).cur (unhide hD).rd (by omega)).mono ?_
  rintro e w1 ⟨at0, rfl, at00, at01, hcu, hgr⟩
  have hO := hide (own_kept (unhide hO) hgr (by omega))
  have hD := hide ((unhide hD).step hB hcu hgr)
  clear hcu hgr
  go_wp2_with fail
  refine (below_any B g a len cap 5 _ hB hl (unhide hD).cur (unhide hD).rd (by omega)).mono ?_
  rintro e w2 ⟨x, rfl, x0, x1, hcu, hgr⟩
  have hO := hide (own_kept (unhide hO) hgr (by omega))
  have hD := hide ((unhide hD).step hB hcu hgr)
  clear hcu hgr
  go_wp2
  go_loopw [3, 4, 5] (fun s y z wr => ∃ (r c n : Nat) (at1 q : Int), y = .int .i64 at1 ∧ z = .int .i64 q ∧ s = .slice (some ⟨r, 0, none⟩) n c ∧ 0 ≤ at1 ∧ at1 ≤ 5 + 25 * (n : Int) ∧ 0 ≤ q ∧ q ≤ 5 ∧ 1 ≤ n + q ∧ n + q ≤ 5 ∧ w.heap.size ≤ r ∧ Hid (DR w B g a len cap wr r c n)) (fun _ _ z _ => (intOf z).toNat)
  case atStart => exact ⟨w.heap.size, 0, 0, at0, 1 + x, rfl, rfl, rfl, by omega, by omega, by omega, by omega, by omega, by omega, by omega, hide ⟨⟨[], rfl, unhide hO⟩, unhide hD⟩⟩
  case round =>
    clear hO hD
    obtain ⟨r, c, n, at1, q, rfl, rfl, rfl, a0, a1, q0, q1, q2, q3, hwr, hDR⟩ := hrel
    obtain ⟨L, hLn, hO0⟩ := (unhide hDR).own
    have hO := hide hO0
    have hD := hide (unhide hDR).ds
    have hrg : r ≠ g := by omega
    clear hO0 hDR
    by_cases hq : 0 < q
    · have hqd : decide (0 < q) = true := by simpa using hq
      go_wp2_with fail
      refine (below_any B g a len cap 80 _ hB hl (unhide hD).cur (unhide hD).rd (by omega)).mono ?_
      rintro e w3 ⟨f, rfl, f0, f1, hcu, hgr⟩
      have hO := hide (own_kept (unhide hO) hgr (by omega))
      have hD := hide ((unhide hD).step hB hcu hgr)
      clear hcu hgr
      go_wp2_with (at_builtin; refine wpList_kg Try.underlying24 (X := w3) (B := w.heap.size) (g := r) (n := n) (cap := c) (L := L) rfl _ _ rfl rfl (unhide hO) w3.heap.size rfl rfl (by omega) ?_)
      intro r' c' w' hown' hgr' hg'
      have hN := hide (ds_grown (unhide hD) hgr' hwr hgl hB)
      have hO := hide hown'
      have hD := hN
      have hrg : r' ≠ g := by omega
      clear hown' hgr' hN
      go_wp2_with fail
      refine (below_any B g a len cap 20 _ hB hl (unhide hD).cur (unhide hD).rd (by omega)).mono ?_
      rintro e w4 ⟨d, rfl, d0, d1, hcu, hgr⟩
      have hO := hide (own_kept (unhide hO) hgr (by omega))
      have hD := hide ((unhide hD).step hB hcu hgr)
      clear hcu hgr
      have hN : Hid (DR w B g a len cap w4 r' c' (n + 1)) := hide ⟨⟨_, own_len (unhide hO), unhide hO⟩, unhide hD⟩
      clear hO hD
      go_wp2
      go_roundw
      case rel => exact ⟨r', c', n + 1, at1 + 1 + d, q - 1, by go_num, by go_num, rfl, by omega, by omega, by omega, by omega, by omega, by omega, hg', hN⟩
      case measure => simp [intOf]; omega
    · have hqd : decide (0 < q) = false := by simpa using hq
      have hn1 : 1 ≤ n := by omega
      have hn5 : n ≤ 5 := by omega
      clear hq q0 q1 q2 q3 a0 a1
      go_wp2_with fail
      refine (once_any B g a len cap 14 _ hB hl (unhide hD).cur (unhide hD).rd (by omega)).mono ?_
      rintro e w5 ⟨v, rfl, hcu, hgr⟩
      have hO := hide (own_kept (unhide hO) hgr (by omega))
      have hD := hide ((unhide hD).step hB hcu hgr)
      clear hcu hgr
      cases v with
      | false =>
        go_wp2_with fail
        refine (once_any B g a len cap 60 _ hB hl (unhide hD).cur (unhide hD).rd (by omega)).mono ?_
        rintro e w9 ⟨v9, rfl, hcu, hgr⟩
        have hO := hide (own_kept (unhide hO) hgr (by omega))
        have hD := hide ((unhide hD).step hB hcu hgr)
        clear hcu hgr
        cases v9 with
        | false =>
          go_wp2
          go_ret
          exact ⟨r, c, n, rfl, by omega, by omega, ⟨⟨_, hLn, unhide hO⟩, unhide hD⟩⟩
        | true =>
          have hst : Hid (DR w B g a len cap (w9.alloc (.cells #[] 31)) w9.heap.size 0 0) := hide ⟨⟨[], rfl, own_lit0 w9 (unhide hD).gr.size⟩, ds_alloc (unhide hD) hB _⟩
          have hw9 : w.heap.size ≤ w9.heap.size := (unhide hD).gr.size
          clear hO hD
          go_wp2
          go_loopw [3, 7] (fun s y wr => ∃ (r c n : Nat), y = .int .i64 (n : Nat) ∧ s = .slice (some ⟨r, 0, none⟩) n c ∧ n ≤ 101 ∧ w.heap.size ≤ r ∧ Hid (DR w B g a len cap wr r c n)) (fun _ y _ => 400 - (intOf y).toNat)
          case atStart => exact ⟨w9.heap.size, 0, 0, rfl, rfl, by omega, hw9, hst⟩
          case round =>
            clear hst
            obtain ⟨r, c, n, rfl, rfl, hn, hwr, hDR⟩ := hrel
            obtain ⟨L, hLn, hO0⟩ := (unhide hDR).own
            have hO := hide hO0
            have hD := hide (unhide hDR).ds
            have hrg : r ≠ g := by omega
            clear hO0 hDR
            go_wp2_with fail
            refine (below_any B g a len cap 2 _ hB hl (unhide hD).cur (unhide hD).rd (by omega)).mono ?_
            rintro e w10 ⟨y, rfl, y0, y1, hcu, hgr⟩
            have hO := hide (own_kept (unhide hO) hgr (by omega))
            have hD := hide ((unhide hD).step hB hcu hgr)
            clear hcu hgr
            by_cases hlt : (n : Int) < 100 + y
            · have hltd : decide ((n : Int) < 100 + y) = true := by simpa using hlt
              obtain ⟨u, hu⟩ : ∃ u, IntKind.i64.wrap ((n : Int) * (n : Int)) = u := ⟨_, rfl⟩
              go_wp2_with (at_builtin; refine wpList_kg Try.underlying24 (X := w10) (B := w.heap.size) (g := r) (n := n) (cap := c) (L := L) rfl _ _ rfl rfl (unhide hO) w10.heap.size rfl rfl (by omega) ?_)
              intro r' c' w' hown' hgr' hg'
              have hN : Hid (DR w B g a len cap w' r' c' (n + 1)) := hide ⟨⟨_, own_len hown', hown'⟩, ds_grown (unhide hD) hgr' hwr hgl hB⟩
              clear hown' hgr' hO hD
              go_wp2
              go_roundw
              case rel => exact ⟨r', c', n + 1, by go_num, rfl, by omega, hg', hN⟩
              case measure => simp [intOf]; omega
            · have hltd : decide ((n : Int) < 100 + y) = false := by simpa using hlt
              clear hlt
              go_wp2
              go_ret
              exact ⟨r, c, n, rfl, by omega, hwr, ⟨⟨L, hLn, unhide hO⟩, unhide hD⟩⟩
      | true =>
        go_wp2_with fail
        refine (below_any B g a len cap (n : Int) _ hB hl (unhide hD).cur (unhide hD).rd (by omega)).mono ?_
        rintro e w6 ⟨p, rfl, p0, p1, hcu, hgr⟩
        have hO := hide (own_kept (unhide hO) hgr (by omega))
        have hD := hide ((unhide hD).step hB hcu hgr)
        clear hcu hgr
        obtain ⟨i, rfl⟩ : ∃ i : Nat, p = i := ⟨p.toNat, by omega⟩
        have hin : i < n := by omega
        have hinI : (i : Int) < (n : Int) := by omega
        go_wp2_with fail
        refine (below_any B g a len cap 3 _ hB hl (unhide hD).cur (unhide hD).rd (by omega)).mono ?_
        rintro e w7 ⟨k, rfl, k0, k1, hcu, hgr⟩
        have hO := hide (own_kept (unhide hO) hgr (by omega))
        have hD := hide ((unhide hD).step hB hcu hgr)
        clear hcu hgr
        have hk : k = 0 ∨ k = 1 ∨ k = 2 := by omega
        rcases hk with rfl | rfl | rfl
        · have hAl : Below w7.heap.size w7 (w7.alloc (.cells #[.int .i64 (-1), .int .i64 (10000000), .int .i64 (10000001), .int .i64 (3)] 2)) := (Below.refl _ _).alloc (Nat.le_refl _) _
          have hO := hide (ownsRow_below (unhide hO) hAl)
          have hlg : w7.heap.size ≠ g := by have := (unhide hD).cur.lt; omega
          have hD := hide (ds_alloc (unhide hD) hB (.cells #[.int .i64 (-1), .int .i64 (10000000), .int .i64 (10000001), .int .i64 (3)] 2))
          have hl5 := fun k hk => lit4 (w := w7) (T := 2) (k := k) (a0 := -1) (a1 := 10000000) (a2 := 10000001) (a3 := 3) hk
          clear hAl
          go_wp2_with fail
          refine (below_any B g a len cap 4 _ hB hl (unhide hD).cur (unhide hD).rd (by omega)).mono ?_
          rintro e w8 ⟨d, rfl, d0, d1, hcu, hgr⟩
          obtain ⟨m, rfl⟩ : ∃ m : Nat, d = m := ⟨d.toNat, by omega⟩
          obtain ⟨u, hu⟩ := hl5 m (by omega)
          have hu2 := grown_cell hgr hlg hu
          have hO := hide (own_kept (unhide hO) hgr (by omega))
          have hD := hide ((unhide hD).step hB hcu hgr)
          clear hcu hgr
          clear hu hl5
          obtain ⟨z0, c0, f0, _, _⟩ := own_at (i := i * 2) (unhide hO) (by omega)
          obtain ⟨L2, hL2, hO2⟩ := own_s0 (v := u) (unhide hO) hin
          have hD2 := ds_grown (unhide hD) (set_grown w8 r (i * 2) (.int .i64 u)) hwr hgl hB
          have hO := hide hO2
          have hD := hide hD2
          have hLn := hL2
          clear hO2 hD2 hL2
          go_wp2_with fail
          refine (once_any B g a len cap 60 _ hB hl (unhide hD).cur (unhide hD).rd (by omega)).mono ?_
          rintro e w9 ⟨v9, rfl, hcu, hgr⟩
          have hO := hide (own_kept (unhide hO) hgr (by omega))
          have hD := hide ((unhide hD).step hB hcu hgr)
          clear hcu hgr
          cases v9 with
          | false =>
            go_wp2
            go_ret
            exact ⟨r, c, n, rfl, by omega, by omega, ⟨⟨_, hLn, unhide hO⟩, unhide hD⟩⟩
          | true =>
            have hst : Hid (DR w B g a len cap (w9.alloc (.cells #[] 31)) w9.heap.size 0 0) := hide ⟨⟨[], rfl, own_lit0 w9 (unhide hD).gr.size⟩, ds_alloc (unhide hD) hB _⟩
            have hw9 : w.heap.size ≤ w9.heap.size := (unhide hD).gr.size
            clear hO hD
            go_wp2
            go_loopw [3, 7] (fun s y wr => ∃ (r c n : Nat), y = .int .i64 (n : Nat) ∧ s = .slice (some ⟨r, 0, none⟩) n c ∧ n ≤ 101 ∧ w.heap.size ≤ r ∧ Hid (DR w B g a len cap wr r c n)) (fun _ y _ => 400 - (intOf y).toNat)
            case atStart => exact ⟨w9.heap.size, 0, 0, rfl, rfl, by omega, hw9, hst⟩
            case round =>
              clear hst
              obtain ⟨r, c, n, rfl, rfl, hn, hwr, hDR⟩ := hrel
              obtain ⟨L, hLn, hO0⟩ := (unhide hDR).own
              have hO := hide hO0
              have hD := hide (unhide hDR).ds
              have hrg : r ≠ g := by omega
              clear hO0 hDR
              go_wp2_with fail
              refine (below_any B g a len cap 2 _ hB hl (unhide hD).cur (unhide hD).rd (by omega)).mono ?_
              rintro e w10 ⟨y, rfl, y0, y1, hcu, hgr⟩
              have hO := hide (own_kept (unhide hO) hgr (by omega))
              have hD := hide ((unhide hD).step hB hcu hgr)
              clear hcu hgr
              by_cases hlt : (n : Int) < 100 + y
              · have hltd : decide ((n : Int) < 100 + y) = true := by simpa using hlt
                obtain ⟨u, hu⟩ : ∃ u, IntKind.i64.wrap ((n : Int) * (n : Int)) = u := ⟨_, rfl⟩
                go_wp2_with (at_builtin; refine wpList_kg Try.underlying24 (X := w10) (B := w.heap.size) (g := r) (n := n) (cap := c) (L := L) rfl _ _ rfl rfl (unhide hO) w10.heap.size rfl rfl (by omega) ?_)
                intro r' c' w' hown' hgr' hg'
                have hN : Hid (DR w B g a len cap w' r' c' (n + 1)) := hide ⟨⟨_, own_len hown', hown'⟩, ds_grown (unhide hD) hgr' hwr hgl hB⟩
                clear hown' hgr' hO hD
                go_wp2
                go_roundw
                case rel => exact ⟨r', c', n + 1, by go_num, rfl, by omega, hg', hN⟩
                case measure => simp [intOf]; omega
              · have hltd : decide ((n : Int) < 100 + y) = false := by simpa using hlt
                clear hlt
                go_wp2
                go_ret
                exact ⟨r, c, n, rfl, by omega, hwr, ⟨⟨L, hLn, unhide hO⟩, unhide hD⟩⟩
        · have hAl : Below w7.heap.size w7 (w7.alloc (.cells #[.int .i64 (-1), .int .i64 (10000000), .int .i64 (10000001)] 2)) := (Below.refl _ _).alloc (Nat.le_refl _) _
          have hO := hide (ownsRow_below (unhide hO) hAl)
          have hlg : w7.heap.size ≠ g := by have := (unhide hD).cur.lt; omega
          have hD := hide (ds_alloc (unhide hD) hB (.cells #[.int .i64 (-1), .int .i64 (10000000), .int .i64 (10000001)] 2))
          have hl5 := fun k hk => lit3 (w := w7) (T := 2) (k := k) (a0 := -1) (a1 := 10000000) (a2 := 10000001) hk
          clear hAl
          go_wp2_with fail
          refine (below_any B g a len cap 3 _ hB hl (unhide hD).cur (unhide hD).rd (by omega)).mono ?_
          rintro e w8 ⟨d, rfl, d0, d1, hcu, hgr⟩
          obtain ⟨m, rfl⟩ : ∃ m : Nat, d = m := ⟨d.toNat, by omega⟩
          obtain ⟨u, hu⟩ := hl5 m (by omega)
          have hu2 := grown_cell hgr hlg hu
          have hO := hide (own_kept (unhide hO) hgr (by omega))
          have hD := hide ((unhide hD).step hB hcu hgr)
          clear hcu hgr
          clear hu hl5
          obtain ⟨z0, c0, f0, _, _⟩ := own_at (i := i * 2 + 1) (unhide hO) (by omega)
          obtain ⟨L2, hL2, hO2⟩ := own_s1 (v := u) (unhide hO) hin
          have hD2 := ds_grown (unhide hD) (set_grown w8 r (i * 2 + 1) (.int .i64 u)) hwr hgl hB
          have hO := hide hO2
          have hD := hide hD2
          have hLn := hL2
          clear hO2 hD2 hL2
          go_wp2_with fail
          refine (once_any B g a len cap 60 _ hB hl (unhide hD).cur (unhide hD).rd (by omega)).mono ?_
          rintro e w9 ⟨v9, rfl, hcu, hgr⟩
          have hO := hide (own_kept (unhide hO) hgr (by omega))
          have hD := hide ((unhide hD).step hB hcu hgr)
          clear hcu hgr
          cases v9 with
          | false =>
            go_wp2
            go_ret
            exact ⟨r, c, n, rfl, by omega, by omega, ⟨⟨_, hLn, unhide hO⟩, unhide hD⟩⟩
          | true =>
            have hst : Hid (DR w B g a len cap (w9.alloc (.cells #[] 31)) w9.heap.size 0 0) := hide ⟨⟨[], rfl, own_lit0 w9 (unhide hD).gr.size⟩, ds_alloc (unhide hD) hB _⟩
            have hw9 : w.heap.size ≤ w9.heap.size := (unhide hD).gr.size
            clear hO hD
            go_wp2
            go_loopw [3, 7] (fun s y wr => ∃ (r c n : Nat), y = .int .i64 (n : Nat) ∧ s = .slice (some ⟨r, 0, none⟩) n c ∧ n ≤ 101 ∧ w.heap.size ≤ r ∧ Hid (DR w B g a len cap wr r c n)) (fun _ y _ => 400 - (intOf y).toNat)
            case atStart => exact ⟨w9.heap.size, 0, 0, rfl, rfl, by omega, hw9, hst⟩
            case round =>
              clear hst
              obtain ⟨r, c, n, rfl, rfl, hn, hwr, hDR⟩ := hrel
              obtain ⟨L, hLn, hO0⟩ := (unhide hDR).own
              have hO := hide hO0
              have hD := hide (unhide hDR).ds
              have hrg : r ≠ g := by omega
              clear hO0 hDR
              go_wp2_with fail
              refine (below_any B g a len cap 2 _ hB hl (unhide hD).cur (unhide hD).rd (by omega)).mono ?_
              rintro e w10 ⟨y, rfl, y0, y1, hcu, hgr⟩
              have hO := hide (own_kept (unhide hO) hgr (by omega))
              have hD := hide ((unhide hD).step hB hcu hgr)
              clear hcu hgr
              by_cases hlt : (n : Int) < 100 + y
              · have hltd : decide ((n : Int) < 100 + y) = true := by simpa using hlt
                obtain ⟨u, hu⟩ : ∃ u, IntKind.i64.wrap ((n : Int) * (n : Int)) = u := ⟨_, rfl⟩
                go_wp2_with (at_builtin; refine wpList_kg Try.underlying24 (X := w10) (B := w.heap.size) (g := r) (n := n) (cap := c) (L := L) rfl _ _ rfl rfl (unhide hO) w10.heap.size rfl rfl (by omega) ?_)
                intro r' c' w' hown' hgr' hg'
                have hN : Hid (DR w B g a len cap w' r' c' (n + 1)) := hide ⟨⟨_, own_len hown', hown'⟩, ds_grown (unhide hD) hgr' hwr hgl hB⟩
                clear hown' hgr' hO hD
                go_wp2
                go_roundw
                case rel => exact ⟨r', c', n + 1, by go_num, rfl, by omega, hg', hN⟩
                case measure => simp [intOf]; omega
              · have hltd : decide ((n : Int) < 100 + y) = false := by simpa using hlt
                clear hlt
                go_wp2
                go_ret
                exact ⟨r, c, n, rfl, by omega, hwr, ⟨⟨L, hLn, unhide hO⟩, unhide hD⟩⟩
        · have hO := hide (own_lit0 w7 (unhide hD).gr.size)
          have hwr2 : w.heap.size ≤ w7.heap.size := (unhide hD).gr.size
          have hD := hide (ds_alloc (unhide hD) hB (.cells #[] 31))
          have hLn : ([] : List Ky).length = 0 := rfl
          have hrg2 : w7.heap.size ≠ g := by omega
          clear hwr hrg
          go_wp2_with fail
          refine (once_any B g a len cap 60 _ hB hl (unhide hD).cur (unhide hD).rd (by omega)).mono ?_
          rintro e w9 ⟨v9, rfl, hcu, hgr⟩
          have hO := hide (own_kept (unhide hO) hgr (by omega))
          have hD := hide ((unhide hD).step hB hcu hgr)
          clear hcu hgr
          cases v9 with
          | false =>
            go_wp2
            go_ret
            exact ⟨w7.heap.size, 0, 0, rfl, by omega, by omega, ⟨⟨_, hLn, unhide hO⟩, unhide hD⟩⟩
          | true =>
            have hst : Hid (DR w B g a len cap (w9.alloc (.cells #[] 31)) w9.heap.size 0 0) := hide ⟨⟨[], rfl, own_lit0 w9 (unhide hD).gr.size⟩, ds_alloc (unhide hD) hB _⟩
            have hw9 : w.heap.size ≤ w9.heap.size := (unhide hD).gr.size
            clear hO hD
            go_wp2
            go_loopw [3, 7] (fun s y wr => ∃ (r c n : Nat), y = .int .i64 (n : Nat) ∧ s = .slice (some ⟨r, 0, none⟩) n c ∧ n ≤ 101 ∧ w.heap.size ≤ r ∧ Hid (DR w B g a len cap wr r c n)) (fun _ y _ => 400 - (intOf y).toNat)
            case atStart => exact ⟨w9.heap.size, 0, 0, rfl, rfl, by omega, hw9, hst⟩
            case round =>
              clear hst
              obtain ⟨r, c, n, rfl, rfl, hn, hwr, hDR⟩ := hrel
              obtain ⟨L, hLn, hO0⟩ := (unhide hDR).own
              have hO := hide hO0
              have hD := hide (unhide hDR).ds
              have hrg : r ≠ g := by omega
              clear hO0 hDR
              go_wp2_with fail
              refine (below_any B g a len cap 2 _ hB hl (unhide hD).cur (unhide hD).rd (by omega)).mono ?_
              rintro e w10 ⟨y, rfl, y0, y1, hcu, hgr⟩
              have hO := hide (own_kept (unhide hO) hgr (by omega))
              have hD := hide ((unhide hD).step hB hcu hgr)
              clear hcu hgr
              by_cases hlt : (n : Int) < 100 + y
              · have hltd : decide ((n : Int) < 100 + y) = true := by simpa using hlt
                obtain ⟨u, hu⟩ : ∃ u, IntKind.i64.wrap ((n : Int) * (n : Int)) = u := ⟨_, rfl⟩
                go_wp2_with (at_builtin; refine wpList_kg Try.underlying24 (X := w10) (B := w.heap.size) (g := r) (n := n) (cap := c) (L := L) rfl _ _ rfl rfl (unhide hO) w10.heap.size rfl rfl (by omega) ?_)
                intro r' c' w' hown' hgr' hg'
                have hN : Hid (DR w B g a len cap w' r' c' (n + 1)) := hide ⟨⟨_, own_len hown', hown'⟩, ds_grown (unhide hD) hgr' hwr hgl hB⟩
                clear hown' hgr' hO hD
                go_wp2
                go_roundw
                case rel => exact ⟨r', c', n + 1, by go_num, rfl, by omega, hg', hN⟩
                case measure => simp [intOf]; omega
              · have hltd : decide ((n : Int) < 100 + y) = false := by simpa using hlt
                clear hlt
                go_wp2
                go_ret
                exact ⟨r, c, n, rfl, by omega, hwr, ⟨⟨L, hLn, unhide hO⟩, unhide hD⟩⟩
end Go.Proofs.Ytbmkbhondlecaaa.Y
