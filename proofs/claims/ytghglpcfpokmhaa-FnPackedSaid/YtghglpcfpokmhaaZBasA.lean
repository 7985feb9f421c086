/-
  Contracts of what asks for a name, and of what orders two names; nothing is written.
  Three cells in a block; no conditions.
  Lists of bytes that grow: one byte more; an answer that is a new list; no conditions.
  Laws of memory for an asset's three cells; contracts of the leaves: copies, comparisons, sizes; nothing that was there is written.
-/
import Derived.Test.YtghglpcfpokmhaaZLv
import Derived.Test.YtghglpcfpokmhaaZDg
import Derived.Deep.Heap
namespace Go.Proofs.Ytghglpcfpokmhaa
open Go.RowKit
set_option linter.unusedVariables false
set_option linter.unusedSimpArgs false

theorem idx_str {s : ByteArray} {l : List UInt8} {k : Nat} {c : UInt8} (hl : s.data.toList = l) (h : l[k]? = some c) (w : World) : (Instr.index 9 (.string s) (.int .i64 (k : Int))).run Try.prog w = .ok (.int .u8 (c.toNat : Int)) w := by
  have hk : k < l.length := (List.getElem?_eq_some_iff.1 h).1
  have hsz : s.size = l.length := by rw [Lib.size_eq, hl]
  rw [run_index_string w 9 s .i64 k Try.underlying9, dif_pos ⟨by omega, by omega⟩]
  have e : s[(k : Int).toNat]'(by omega) = c := by
    have h2 : s.data.toList[k]? = some c := by rw [hl]; exact h
    simp only [Int.toNat_natCast]
    have h3 : s.data[k]? = some c := by rw [← h2]; simp
    have h4 := (Array.getElem?_eq_some_iff.1 h3).2
    exact h4
  rw [e]
set_option maxRecDepth 100000 in
set_option maxHeartbeats 3200000 in
theorem snm_any (s : ByteArray) (w : World) (hs : s.size ≤ maxLen) : Calls Try.prog 21 #[.string s] w fun e w' => e = .returned (.bool (nmOk s)) ∧ w' = w := by
  unfold maxLen at hs
  by_cases h1 : 1 ≤ s.size
  rotate_left
  · have g1 : decide ((s.size : Int) < 1) = true := by simp; omega
    rw [nm_short h1]
    go_enter Try.func21, Try.ntmps21
    go_wp2
    go_ret
    exact ⟨rfl, rfl⟩
  have g1 : decide ((s.size : Int) < 1) = false := by simp; omega
  by_cases h2 : s.size ≤ 40
  rotate_left
  · have g2 : decide ((40 : Int) < s.size) = true := by simp; omega
    rw [nm_long h2]
    go_enter Try.func21, Try.ntmps21
    go_wp2
    go_ret
    exact ⟨rfl, rfl⟩
  have g2 : decide ((40 : Int) < s.size) = false := by simp; omega
  go_enter Try.func21, Try.ntmps21
  go_wp2
  go_loop [3] (fun t => ∃ k : Nat, k ≤ s.size ∧ t = .int .i64 k ∧ Hid (∀ (j : Nat) (c : UInt8), j < k → s.data.toList[j]? = some c → chOk (c.toNat : Int) = true)) (fun t => s.size - (intOf t).toNat)
  case atStart => exact ⟨0, by omega, rfl, hide (fun j c h => by omega)⟩
  case round =>
    obtain ⟨k, hk, rfl, hpre⟩ := hrel
    by_cases hlt : k < s.size
    · obtain ⟨c, hc⟩ : ∃ c, s.data.toList[k]? = some c := ⟨_, List.getElem?_eq_getElem (by rw [← Lib.size_eq]; exact hlt)⟩
      have hi := idx_str rfl hc w
      obtain ⟨x, hx⟩ : ∃ x : Int, (c.toNat : Int) = x := ⟨_, rfl⟩
      have hx0 : 0 ≤ x ∧ x ≤ 255 := by have := c.toNat_lt; omega
      have hch := hide hc
      rw [hx] at hi
      have hx' := hide hx
      clear hc hx
      have g1 : decide ((k : Int) < s.size) = true := by simp; omega
      cases hok : chOk x with
      | false =>
        obtain ⟨n1, n2, n3, n4, n5⟩ := ch_no hok
        have hfin := hide (nm_bad (unhide hch) (by rw [unhide hx']; exact hok))
        clear hok
        have e4 : (x != 95) = true := by simpa using n4
        have e5 : (x != 46) = true := by simpa using n5
        have b1 : (decide (x < 48) || decide (57 < x)) = true := by simp; omega
        have b2 : (decide (x < 97) || decide (122 < x)) = true := by simp; omega
        have b3 : (decide (x < 65) || decide (90 < x)) = true := by simp; omega
        go_wp2
        all_goals
          first
          | (exfalso; omega)
          | (go_ret; exact ⟨ret_bool (unhide hfin).symm, rfl⟩)
      | true =>
        have hpre' := hide (show ∀ (j : Nat) (c : UInt8), j < k + 1 → s.data.toList[j]? = some c → chOk (c.toNat : Int) = true from fun j c' hj hc' => by
          rcases Nat.lt_or_ge j k with h | h
          · exact unhide hpre j c' h hc'
          · have : j = k := by omega
            subst this
            rw [unhide hch] at hc'; injection hc' with hc'; subst hc'; rw [unhide hx']; exact hok)
        have hy := ch_yes hok
        clear hok hpre
        rcases hy with hy | hy | hy | hy | hy
        all_goals
          go_wp2
          all_goals
            first
            | (exfalso; omega)
            | (go_round
               case rel => exact ⟨k + 1, by omega, by go_num, hpre'⟩
               case measure => simp [intOf]; omega)
    · have g1 : decide ((k : Int) < s.size) = false := by simp; omega
      have hfin := hide (nm_good h1 h2 (fun j c hc => unhide hpre j c (by have := (List.getElem?_eq_some_iff.1 hc).1; rw [Lib.size_eq] at hlt; omega) hc))
      go_wp2
      go_ret
      exact ⟨ret_bool (unhide hfin).symm, rfl⟩
set_option maxHeartbeats 400000 in
theorem icap_any (x : Int) (v : Bool) (w : World) (hv : (decide (65 ≤ x) && decide (x ≤ 90)) = v) : Calls Try.prog 82 #[.int .u8 x] w fun e w' => e = .returned (.bool v) ∧ w' = w := by
  subst hv
  by_cases h1 : 65 ≤ x
  · by_cases h2 : x ≤ 90
    · go_enter Try.func82, Try.ntmps82
      go_wp2
      go_ret
      exact ⟨ret_bool (by simp [h1, h2]), rfl⟩
    · go_enter Try.func82, Try.ntmps82
      go_wp2
      go_ret
      exact ⟨ret_bool (by simp [h2]), rfl⟩
  · have hd : decide (65 ≤ x) = false := by simpa using h1
    go_enter Try.func82, Try.ntmps82
    go_wp2
    go_ret
    exact ⟨ret_bool (by simp), rfl⟩
set_option maxHeartbeats 400000 in
theorem idgt_any (x : Int) (v : Bool) (w : World) (hv : (decide (48 ≤ x) && decide (x ≤ 57)) = v) : Calls Try.prog 71 #[.int .u8 x] w fun e w' => e = .returned (.bool v) ∧ w' = w := by
  subst hv
  by_cases h1 : 48 ≤ x
  · by_cases h2 : x ≤ 57
    · go_enter Try.func71, Try.ntmps71
      go_wp2
      go_ret
      exact ⟨ret_bool (by simp [h1, h2]), rfl⟩
    · go_enter Try.func71, Try.ntmps71
      go_wp2
      go_ret
      exact ⟨ret_bool (by simp [h2]), rfl⟩
  · have hd : decide (48 ≤ x) = false := by simpa using h1
    go_enter Try.func71, Try.ntmps71
    go_wp2
    go_ret
    exact ⟨ret_bool (by simp), rfl⟩
def ltB (x : Int) : Bool := (decide (65 ≤ x) && decide (x ≤ 90)) || (decide (97 ≤ x) && decide (x ≤ 122))
set_option maxHeartbeats 800000 in
theorem iltr_any (x : Int) (w : World) : Calls Try.prog 70 #[.int .u8 x] w fun e w' => e = .returned (.bool (ltB x)) ∧ w' = w := by
  obtain ⟨v, hv⟩ : ∃ v, (decide (65 ≤ x) && decide (x ≤ 90)) = v := ⟨_, rfl⟩
  have hL : Hid (ltB x = (v || (decide (97 ≤ x) && decide (x ≤ 122)))) := hide (by unfold ltB; rw [hv])
  have hv' := hide hv
  clear hv
  cases v with
  | true =>
    go_enter Try.func70, Try.ntmps70
    go_wp2_with fail
    refine (icap_any x true _ (unhide hv')).mono ?_
    rintro e w1 ⟨rfl, rfl⟩
    go_wp2
    go_ret
    exact ⟨ret_bool (by rw [unhide hL]; rfl), rfl⟩
  | false =>
    by_cases h1 : 97 ≤ x
    · go_enter Try.func70, Try.ntmps70
      go_wp2_with fail
      refine (icap_any x false _ (unhide hv')).mono ?_
      rintro e w1 ⟨rfl, rfl⟩
      go_wp2
      go_ret
      exact ⟨ret_bool (by rw [unhide hL]; simp [h1]), rfl⟩
    · have hd : decide (97 ≤ x) = false := by simpa using h1
      go_enter Try.func70, Try.ntmps70
      go_wp2_with fail
      refine (icap_any x false _ (unhide hv')).mono ?_
      rintro e w1 ⟨rfl, rfl⟩
      go_wp2
      go_ret
      exact ⟨ret_bool (by rw [unhide hL, hd]; rfl), rfl⟩
theorem ch_parts (x : Int) : chOk x = (ltB x || (decide (48 ≤ x) && decide (x ≤ 57)) || decide (x = 95) || decide (x = 46)) := by
  unfold chOk ltB
  rw [Bool.eq_iff_iff]; simp; omega
set_option maxRecDepth 100000 in
set_option maxHeartbeats 1600000 in
theorem inm_any (s : ByteArray) (w : World) (hs : s.size ≤ maxLen) : Calls Try.prog 39 #[.string s] w fun e w' => e = .returned (.bool (nmOk s)) ∧ w' = w := by
  unfold maxLen at hs
  by_cases h1 : 1 ≤ s.size
  rotate_left
  · have g1 : decide ((s.size : Int) < 1) = true := by simp; omega
    rw [nm_short h1]
    go_enter Try.func39, Try.ntmps39
    go_wp2
    go_ret
    exact ⟨rfl, rfl⟩
  have g1 : decide ((s.size : Int) < 1) = false := by simp; omega
  by_cases h2 : s.size ≤ 40
  rotate_left
  · have g2 : decide ((40 : Int) < s.size) = true := by simp; omega
    rw [nm_long h2]
    go_enter Try.func39, Try.ntmps39
    go_wp2
    go_ret
    exact ⟨rfl, rfl⟩
  have g2 : decide ((40 : Int) < s.size) = false := by simp; omega
  go_enter Try.func39, Try.ntmps39
  go_wp2
  go_loop [15] (fun t => ∃ k : Nat, k ≤ s.size ∧ t = .int .i64 k ∧ Hid (∀ (j : Nat) (c : UInt8), j < k → s.data.toList[j]? = some c → chOk (c.toNat : Int) = true)) (fun t => s.size - (intOf t).toNat)
  case atStart => exact ⟨0, by omega, rfl, hide (fun j c h => by omega)⟩
  case round =>
    obtain ⟨k, hk, rfl, hpre⟩ := hrel
    by_cases hlt : k < s.size
    · obtain ⟨c, hc⟩ : ∃ c, s.data.toList[k]? = some c := ⟨_, List.getElem?_eq_getElem (by rw [← Lib.size_eq]; exact hlt)⟩
      have hi := idx_str rfl hc w
      obtain ⟨x, hx⟩ : ∃ x : Int, (c.toNat : Int) = x := ⟨_, rfl⟩
      have hx0 : 0 ≤ x ∧ x ≤ 255 := by have := c.toNat_lt; omega
      have hch := hide hc
      rw [hx] at hi
      have hx' := hide hx
      clear hc hx
      have g1 : decide ((k : Int) < s.size) = true := by simp; omega
      obtain ⟨v, hv⟩ : ∃ v, chOk x = v := ⟨_, rfl⟩
      have hbad := hide (show v = false → nmOk s = false from fun e => nm_bad (unhide hch) (by rw [unhide hx', hv, e]))
      have hpre' := hide (show v = true → ∀ (j : Nat) (c : UInt8), j < k + 1 → s.data.toList[j]? = some c → chOk (c.toNat : Int) = true from fun e j c' hj hc' => by
        rcases Nat.lt_or_ge j k with h | h
        · exact unhide hpre j c' h hc'
        · have : j = k := by omega
          subst this
          rw [unhide hch] at hc'; injection hc' with hc'; subst hc'; rw [unhide hx', hv, e])
      have hv' := hide (hv.symm.trans (ch_parts x))
      clear hv hpre hx' hch
      have hlt' := hide (iltr_any x)
      obtain ⟨p, hp⟩ : ∃ p, ltB x = p := ⟨_, rfl⟩
      obtain ⟨d, hd⟩ : ∃ d, (decide (48 ≤ x) && decide (x ≤ 57)) = d := ⟨_, rfl⟩
      have hd' := hide hd
      rw [hp, hd] at hv'
      rw [hp] at hlt'
      clear hp hd
      obtain ⟨u, hu⟩ : ∃ u, (x != 95) = u := ⟨_, rfl⟩
      obtain ⟨z, hz⟩ : ∃ z, (x != 46) = z := ⟨_, rfl⟩
      have hv2 := hide (show v = (p || d || !u || !z) by rw [unhide hv', ← hu, ← hz]; simp [bne]; rfl)
      clear hv'
      cases p with
      | true =>
        go_wp2_with fail
        refine (unhide hlt' _).mono ?_
        rintro e w1 ⟨rfl, rfl⟩
        go_wp2
        go_round
        case rel => exact ⟨k + 1, by omega, by go_num, hide (unhide hpre' (by rw [unhide hv2]; rfl))⟩
        case measure => simp [intOf]; omega
      | false =>
        cases d with
        | true =>
          go_wp2_with fail
          refine (unhide hlt' _).mono ?_
          rintro e w1 ⟨rfl, rfl⟩
          go_wp2_with fail
          refine (idgt_any x true _ (unhide hd')).mono ?_
          rintro e w1 ⟨rfl, rfl⟩
          go_wp2
          go_round
          case rel => exact ⟨k + 1, by omega, by go_num, hide (unhide hpre' (by rw [unhide hv2]; rfl))⟩
          case measure => simp [intOf]; omega
        | false =>
          cases u with
          | false =>
            go_wp2_with fail
            refine (unhide hlt' _).mono ?_
            rintro e w1 ⟨rfl, rfl⟩
            go_wp2_with fail
            refine (idgt_any x false _ (unhide hd')).mono ?_
            rintro e w1 ⟨rfl, rfl⟩
            go_wp2
            go_round
            case rel => exact ⟨k + 1, by omega, by go_num, hide (unhide hpre' (by rw [unhide hv2]; rfl))⟩
            case measure => simp [intOf]; omega
          | true =>
            cases z with
            | false =>
              go_wp2_with fail
              refine (unhide hlt' _).mono ?_
              rintro e w1 ⟨rfl, rfl⟩
              go_wp2_with fail
              refine (idgt_any x false _ (unhide hd')).mono ?_
              rintro e w1 ⟨rfl, rfl⟩
              go_wp2
              go_round
              case rel => exact ⟨k + 1, by omega, by go_num, hide (unhide hpre' (by rw [unhide hv2]; rfl))⟩
              case measure => simp [intOf]; omega
            | true =>
              go_wp2_with fail
              refine (unhide hlt' _).mono ?_
              rintro e w1 ⟨rfl, rfl⟩
              go_wp2_with fail
              refine (idgt_any x false _ (unhide hd')).mono ?_
              rintro e w1 ⟨rfl, rfl⟩
              go_wp2
              go_ret
              exact ⟨ret_bool (unhide hbad (by rw [unhide hv2]; rfl)).symm, rfl⟩
    · have g1 : decide ((k : Int) < s.size) = false := by simp; omega
      have hfin := hide (nm_good h1 h2 (fun j c hc => unhide hpre j c (by have := (List.getElem?_eq_some_iff.1 hc).1; rw [Lib.size_eq] at hlt; omega) hc))
      go_wp2
      go_ret
      exact ⟨ret_bool (unhide hfin).symm, rfl⟩
set_option maxHeartbeats 1600000 in
theorem sbef_any (a b : ByteArray) (w : World) (ha : a.size ≤ maxLen) (hb : b.size ≤ maxLen) : Calls Try.prog 23 #[.string a, .string b] w fun e w' => e = .returned (.bool (bef a b)) ∧ ∃ n, w' = w.drewN n := by
  unfold maxLen at ha hb
  have sa := Lib.size_eq a
  have sb := Lib.size_eq b
  have sa' := hide sa
  have sb' := hide sb
  clear sa sb
  go_enter Try.func23, Try.ntmps23
  go_wp2
  go_loopw [5] (fun t wr => ∃ k : Nat, k ≤ a.size ∧ k ≤ b.size ∧ t = .int .i64 k ∧ Hid (∀ j, j < k → a.data.toList[j]? = b.data.toList[j]?) ∧ Hid (∃ n, wr = w.drewN n)) (fun t _ => a.size - (intOf t).toNat)
  case atStart => exact ⟨0, by omega, by omega, rfl, hide (fun j h => by omega), hide ⟨0, rfl⟩⟩
  case round =>
    obtain ⟨k, h1, h2, rfl, hpre, hw⟩ := hrel
    by_cases hka : k < a.size
    · have g1 : decide ((k : Int) < a.size) = true := by simp; omega
      by_cases hkb : k < b.size
      · have g2 : decide ((k : Int) < b.size) = true := by simp; omega
        obtain ⟨c, hc⟩ : ∃ c, a.data.toList[k]? = some c := ⟨_, List.getElem?_eq_getElem (by rw [← unhide sa']; exact hka)⟩
        obtain ⟨d, hd⟩ : ∃ d, b.data.toList[k]? = some d := ⟨_, List.getElem?_eq_getElem (by rw [← unhide sb']; exact hkb)⟩
        have i1 := fun w => idx_str rfl hc w
        have i2 := fun w => idx_str rfl hd w
        by_cases hcd : c = d
        · subst hcd
          have hn := hide (show ∀ j, j < k + 1 → a.data.toList[j]? = b.data.toList[j]? from fun j hj => by
            rcases Nat.lt_or_ge j k with h | h
            · exact unhide hpre j h
            · have : j = k := by omega
              subst this; rw [hc, hd])
          have e1 : ((c.toNat : Int) != c.toNat) = false := by simp
          clear hc hd hpre
          go_wp2_with fail
          go_quiet (fail)
          go_wp2
          go_roundw
          case rel => exact ⟨k + 1, by omega, by omega, by go_num, hn, hide (by obtain ⟨n, rfl⟩ := unhide hw; exact ⟨_, World.drewN_drewN _ _ _⟩)⟩
          case measure => simp [intOf]; omega
        · have hfin := hide (show bef a b = decide ((c.toNat : Int) < d.toNat) by rw [bef_eq]; exact bl_at hc hd (unhide hpre) hcd)
          have e1 : ((c.toNat : Int) != d.toNat) = true := by
            simp only [bne_iff_ne, ne_eq]
            intro h
            exact hcd (UInt8.toNat_inj.1 (by omega))
          clear hc hd hpre
          go_wp2_with fail
          go_quiet (fail)
          go_wp2_with fail
          go_quiet (fail)
          go_wp2
          go_ret
          exact ⟨ret_bool (by rw [unhide hfin]; simp), by obtain ⟨n, rfl⟩ := unhide hw; exact ⟨_, by rw [World.drewN_drewN, World.drewN_drewN]⟩⟩
      · have g2 : decide ((k : Int) < b.size) = false := by simp; omega
        have hfin := hide (show bef a b = decide ((a.size : Int) < b.size) by rw [bef_eq, unhide sa', unhide sb']; exact bl_end (fun j x y => unhide hpre j (by have := unhide sb'; omega)))
        go_wp2
        go_ret
        exact ⟨ret_bool (by rw [unhide hfin]; simp), unhide hw⟩
    · have g1 : decide ((k : Int) < a.size) = false := by simp; omega
      have hfin := hide (show bef a b = decide ((a.size : Int) < b.size) by rw [bef_eq, unhide sa', unhide sb']; exact bl_end (fun j x y => unhide hpre j (by have := unhide sa'; omega)))
      go_wp2
      go_ret
      exact ⟨ret_bool (by rw [unhide hfin]; simp), unhide hw⟩

end Go.Proofs.Ytghglpcfpokmhaa

namespace Go.Proofs.Ytghglpcfpokmhaa
open Go.RowKit
set_option linter.unusedVariables false
set_option linter.unusedSimpArgs false

theorem blk3 {X : World} {b : Nat} {t : TypeId} {v0 v1 v2 : Value} (h : X.heap[b]? = some (.cells #[v0, v1, v2] t (0, 0))) :
    X.cell? ⟨b, 0, none⟩ = some v0 ∧ X.cell? ⟨b, 1, none⟩ = some v1 ∧ X.cell? ⟨b, 2, none⟩ = some v2 := by
  refine ⟨?_, ?_, ?_⟩ <;> simp [World.cell?, h]

end Go.Proofs.Ytghglpcfpokmhaa

namespace Go.Proofs.Ytghglpcfpokmhaa
open Go.RowKit
set_option linter.unusedVariables false
set_option linter.unusedSimpArgs false

theorem heap_alloc_new (w : World) (o : Obj) : (w.alloc o).heap[w.heap.size]? = some o := Deep.blk_alloc_new _ _
theorem bv_news {w : World} {E : Nat} {v : Int} {t : TypeId} {m : Nat × Nat} (hblk : w.heap[E]? = some (.cells #[.int .u8 v] t m)) : ∀ j u, [bv v][j]? = some u → w.cell? ((⟨E, 0, none⟩ : Addr).add j) = some u := by
  have := World.news_of_block hblk
  simpa [bv] using this
/-- an answer that is a new list -/
def AnB (w : World) (L : List Int) (e : Ending) (w' : World) : Prop := ∃ G cap, e = .returned (.slice (some ⟨G, 0, none⟩) L.length cap) ∧ w.heap.size ≤ G ∧ OwnB w' w.heap.size G L.length cap L ∧ Below w.heap.size w w'
theorem AnB.mk {w w' : World} {L : List Int} {k g c : Nat} (hL : L.length = k) (hg : w.heap.size ≤ g) (ho : OwnB w' w.heap.size g k c L) (hb : Below w.heap.size w w') : AnB w L (.returned (.slice (some ⟨g, 0, none⟩) k c)) w' := by
  subst hL; exact ⟨g, c, rfl, hg, ho, hb⟩
theorem wpList_bA {ops : Array Oper} {rest : List Oper} {o : Oper} {a : Act} {Q : Exit → Act → World → Prop} (w : World) (hgd : o.guard = none) (s x : Operand) (ho : o.op = .call { callee := .builtin .append, args := #[s, x], argTypes := #[22, 22] })
    (B g n cap : Nat) (L : List Int) (v : Int) (hs : a.eval s = .slice (some ⟨g, 0, none⟩) n cap) (hown : OwnB w B g n cap L) (hx : a.eval x = .slice (some ⟨w.heap.size, 0, none⟩) 1 1)
    (hl : n ≤ 1000000) (hB : B ≤ w.heap.size)
    (h : ∀ g' cap' w', OwnB w' B g' (n + 1) cap' (L ++ [v]) → Below B w w' → B ≤ g' → wpList Try.prog ops Q rest (a.put o.dst (.slice (some ⟨g', 0, none⟩) (n + 1) cap')) w') : wpList Try.prog ops Q (o :: rest) a (w.alloc (.cells #[.int .u8 v] 5)) := by
  obtain ⟨i0, hi, hz0, hz1, hz2⟩ := info_parts infoB
  have hb : Below w.heap.size w (w.alloc (.cells #[.int .u8 v] 5)) := (Below.refl _ _).alloc (Nat.le_refl _) _
  have hblk : (w.alloc (.cells #[.int .u8 v] 5)).heap[w.heap.size]? = some (.cells #[.int .u8 v] 5 (0, 0)) := heap_alloc_new w _
  have hnews := bv_news hblk
  have hsz := hb.size
  generalize w.alloc (.cells #[.int .u8 v] 5) = W at *
  have hown2 := ownsRow_below hown hb
  have hBg : B ≤ g := (hown.lt g rfl).1
  refine wpList_append_lies W hgd s x 22 ho B 5 i0 (.int .u8 0) 1 1 Try.underlying22 hi hz0 hz1 hz2 rfl (by decide) _ n (L.map bv) hs hown2 ⟨w.heap.size, 0, none⟩ 1 1 [bv v] hx rfl hnews (by intro u hu; simp at hu; subst hu; rfl) (by decide) (by unfold maxLen; omega) (by omega) (by omega) W.heap.size rfl ?_
  intro g' cap' w' h1 h2 h3 h4
  refine h g' cap' w' (by show World.ownsRow _ _ _ _ _ _ _; rw [List.map_append]; exact h1) ?_ (own_ge h1)
  exact (hb.mono hB).trans ((Below.refl _ _).grown h2 (by omega) (fun k hk => by simp [Value.ownBlock] at hk; omega))

theorem anB_nil (w : World) : AnB w [] (.returned (.slice (some ⟨w.heap.size, 0, none⟩) 0 0)) (w.alloc (.cells #[] 5)) :=
  ⟨w.heap.size, 0, rfl, Nat.le_refl _, ownB_lit0 w (Nat.le_refl _), (Below.refl _ _).alloc (Nat.le_refl _) _⟩
theorem bys_low {w : World} {a : Option Addr} {l : List Int} {b o : Nat} (hk : Bys w a l) (h : a = some ⟨b, o, none⟩) (hn : l ≠ []) : b < w.heap.size := by
  cases l with
  | nil => exact absurd rfl hn
  | cons x t =>
    obtain ⟨b', o', e, h1, _⟩ := hk 0 x rfl
    rw [h] at e
    injection e with e
    injection e with e1 e2
    omega

end Go.Proofs.Ytghglpcfpokmhaa

namespace Go.Proofs.Ytghglpcfpokmhaa
open Go.RowKit
set_option linter.unusedVariables false
set_option linter.unusedSimpArgs false

abbrev sv (s : ByteArray) : Value := .string s
abbrev ag3 (s : ByteArray) (a b : Int) : Value := .agg #[.string s, .int .i64 a, .int .i64 b]
theorem cell_later {w w1 : World} {a : Addr} {v : Value} (hb : Below w.heap.size w w1) (h : w.cell? a = some v) : w1.cell? a = some v := by
  rw [hb.cell (World.block_lt_of_cell? _ _ h)]; exact h
theorem ne_addr {g i j : Nat} (h : i ≠ j) : (⟨g, i, none⟩ : Addr) ≠ ⟨g, j, none⟩ := by intro e; injection e with _ e2 _; exact h e2
theorem ne_blk {g h i j : Nat} (hh : g ≠ h) : (⟨g, i, none⟩ : Addr) ≠ ⟨h, j, none⟩ := by intro e; injection e with e1 _ _; exact hh e1
end Go.Proofs.Ytghglpcfpokmhaa
