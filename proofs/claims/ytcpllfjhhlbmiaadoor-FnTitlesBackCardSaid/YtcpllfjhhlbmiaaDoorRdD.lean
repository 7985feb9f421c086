/-
  The reading of titles by the program: what holds at each of its labels, and that each leads to the next or to the end; nothing that was there is written.
-/
import Derived.Test.YtcpllfjhhlbmiaaDoorRdQ
import Derived.Test.YtcpllfjhhlbmiaaDoorSwS
namespace Go.Proofs.YtcpllfjhhlbmiaaDoor
open Go.RowKit
set_option linter.unusedVariables false
set_option linter.unusedSimpArgs false

theorem cons_of {α : Type} {l : List α} {n : Nat} (h : l.length = n + 1) : ∃ x l', l = x :: l' ∧ l'.length = n := by
  cases l with
  | nil => simp at h
  | cons x l => exact ⟨x, l, rfl, by simpa using h⟩
/-- the slots that count -/
structure At (q g c n : Nat) (v : Value) (sr : ByteArray) (e : Int) (t : Array Value) : Prop where
  sz : t.size = 93
  t4 : t.getD 4 undef = .slice (some ⟨g, 0, none⟩) n c
  t5 : t.getD 5 undef = .pointer (some ⟨q, 0, none⟩)
  t6 : t.getD 6 undef = v
  t8 : t.getD 8 undef = .string sr
  t11 : t.getD 11 undef = .int .i64 e
set_option maxRecDepth 100000 in
theorem At.split {q g c n : Nat} {v : Value} {sr : ByteArray} {e : Int} {t : Array Value} (h : At q g c n v sr e t) : ∃ u : Nat → Value, t = List.toArray (u 0 :: u 1 :: u 2 :: u 3 :: (.slice (some ⟨g, 0, none⟩) n c) :: (.pointer (some ⟨q, 0, none⟩)) :: (v) :: u 7 :: (.string sr) :: u 9 :: u 10 :: (.int .i64 e) :: u 12 :: u 13 :: u 14 :: u 15 :: u 16 :: u 17 :: u 18 :: u 19 :: u 20 :: u 21 :: u 22 :: u 23 :: u 24 :: u 25 :: u 26 :: u 27 :: u 28 :: u 29 :: u 30 :: u 31 :: u 32 :: u 33 :: u 34 :: u 35 :: u 36 :: u 37 :: u 38 :: u 39 :: u 40 :: u 41 :: u 42 :: u 43 :: u 44 :: u 45 :: u 46 :: u 47 :: u 48 :: u 49 :: u 50 :: u 51 :: u 52 :: u 53 :: u 54 :: u 55 :: u 56 :: u 57 :: u 58 :: u 59 :: u 60 :: u 61 :: u 62 :: u 63 :: u 64 :: u 65 :: u 66 :: u 67 :: u 68 :: u 69 :: u 70 :: u 71 :: u 72 :: u 73 :: u 74 :: u 75 :: u 76 :: u 77 :: u 78 :: u 79 :: u 80 :: u 81 :: u 82 :: u 83 :: u 84 :: u 85 :: u 86 :: u 87 :: u 88 :: u 89 :: u 90 :: u 91 :: u 92 :: []) := by
  obtain ⟨hl, h4, h5, h6, h8, h11⟩ := h
  obtain ⟨l0⟩ := t
  have g0 : l0.length = 93 := hl
  obtain ⟨x0, l1, rfl, g1⟩ := cons_of g0
  obtain ⟨x1, l2, rfl, g2⟩ := cons_of g1
  obtain ⟨x2, l3, rfl, g3⟩ := cons_of g2
  obtain ⟨x3, l4, rfl, g4⟩ := cons_of g3
  obtain ⟨x4, l5, rfl, g5⟩ := cons_of g4
  obtain ⟨x5, l6, rfl, g6⟩ := cons_of g5
  obtain ⟨x6, l7, rfl, g7⟩ := cons_of g6
  obtain ⟨x7, l8, rfl, g8⟩ := cons_of g7
  obtain ⟨x8, l9, rfl, g9⟩ := cons_of g8
  obtain ⟨x9, l10, rfl, g10⟩ := cons_of g9
  obtain ⟨x10, l11, rfl, g11⟩ := cons_of g10
  obtain ⟨x11, l12, rfl, g12⟩ := cons_of g11
  obtain ⟨x12, l13, rfl, g13⟩ := cons_of g12
  obtain ⟨x13, l14, rfl, g14⟩ := cons_of g13
  obtain ⟨x14, l15, rfl, g15⟩ := cons_of g14
  obtain ⟨x15, l16, rfl, g16⟩ := cons_of g15
  obtain ⟨x16, l17, rfl, g17⟩ := cons_of g16
  obtain ⟨x17, l18, rfl, g18⟩ := cons_of g17
  obtain ⟨x18, l19, rfl, g19⟩ := cons_of g18
  obtain ⟨x19, l20, rfl, g20⟩ := cons_of g19
  obtain ⟨x20, l21, rfl, g21⟩ := cons_of g20
  obtain ⟨x21, l22, rfl, g22⟩ := cons_of g21
  obtain ⟨x22, l23, rfl, g23⟩ := cons_of g22
  obtain ⟨x23, l24, rfl, g24⟩ := cons_of g23
  obtain ⟨x24, l25, rfl, g25⟩ := cons_of g24
  obtain ⟨x25, l26, rfl, g26⟩ := cons_of g25
  obtain ⟨x26, l27, rfl, g27⟩ := cons_of g26
  obtain ⟨x27, l28, rfl, g28⟩ := cons_of g27
  obtain ⟨x28, l29, rfl, g29⟩ := cons_of g28
  obtain ⟨x29, l30, rfl, g30⟩ := cons_of g29
  obtain ⟨x30, l31, rfl, g31⟩ := cons_of g30
  obtain ⟨x31, l32, rfl, g32⟩ := cons_of g31
  obtain ⟨x32, l33, rfl, g33⟩ := cons_of g32
  obtain ⟨x33, l34, rfl, g34⟩ := cons_of g33
  obtain ⟨x34, l35, rfl, g35⟩ := cons_of g34
  obtain ⟨x35, l36, rfl, g36⟩ := cons_of g35
  obtain ⟨x36, l37, rfl, g37⟩ := cons_of g36
  obtain ⟨x37, l38, rfl, g38⟩ := cons_of g37
  obtain ⟨x38, l39, rfl, g39⟩ := cons_of g38
  obtain ⟨x39, l40, rfl, g40⟩ := cons_of g39
  obtain ⟨x40, l41, rfl, g41⟩ := cons_of g40
  obtain ⟨x41, l42, rfl, g42⟩ := cons_of g41
  obtain ⟨x42, l43, rfl, g43⟩ := cons_of g42
  obtain ⟨x43, l44, rfl, g44⟩ := cons_of g43
  obtain ⟨x44, l45, rfl, g45⟩ := cons_of g44
  obtain ⟨x45, l46, rfl, g46⟩ := cons_of g45
  obtain ⟨x46, l47, rfl, g47⟩ := cons_of g46
  obtain ⟨x47, l48, rfl, g48⟩ := cons_of g47
  obtain ⟨x48, l49, rfl, g49⟩ := cons_of g48
  obtain ⟨x49, l50, rfl, g50⟩ := cons_of g49
  obtain ⟨x50, l51, rfl, g51⟩ := cons_of g50
  obtain ⟨x51, l52, rfl, g52⟩ := cons_of g51
  obtain ⟨x52, l53, rfl, g53⟩ := cons_of g52
  obtain ⟨x53, l54, rfl, g54⟩ := cons_of g53
  obtain ⟨x54, l55, rfl, g55⟩ := cons_of g54
  obtain ⟨x55, l56, rfl, g56⟩ := cons_of g55
  obtain ⟨x56, l57, rfl, g57⟩ := cons_of g56
  obtain ⟨x57, l58, rfl, g58⟩ := cons_of g57
  obtain ⟨x58, l59, rfl, g59⟩ := cons_of g58
  obtain ⟨x59, l60, rfl, g60⟩ := cons_of g59
  obtain ⟨x60, l61, rfl, g61⟩ := cons_of g60
  obtain ⟨x61, l62, rfl, g62⟩ := cons_of g61
  obtain ⟨x62, l63, rfl, g63⟩ := cons_of g62
  obtain ⟨x63, l64, rfl, g64⟩ := cons_of g63
  obtain ⟨x64, l65, rfl, g65⟩ := cons_of g64
  obtain ⟨x65, l66, rfl, g66⟩ := cons_of g65
  obtain ⟨x66, l67, rfl, g67⟩ := cons_of g66
  obtain ⟨x67, l68, rfl, g68⟩ := cons_of g67
  obtain ⟨x68, l69, rfl, g69⟩ := cons_of g68
  obtain ⟨x69, l70, rfl, g70⟩ := cons_of g69
  obtain ⟨x70, l71, rfl, g71⟩ := cons_of g70
  obtain ⟨x71, l72, rfl, g72⟩ := cons_of g71
  obtain ⟨x72, l73, rfl, g73⟩ := cons_of g72
  obtain ⟨x73, l74, rfl, g74⟩ := cons_of g73
  obtain ⟨x74, l75, rfl, g75⟩ := cons_of g74
  obtain ⟨x75, l76, rfl, g76⟩ := cons_of g75
  obtain ⟨x76, l77, rfl, g77⟩ := cons_of g76
  obtain ⟨x77, l78, rfl, g78⟩ := cons_of g77
  obtain ⟨x78, l79, rfl, g79⟩ := cons_of g78
  obtain ⟨x79, l80, rfl, g80⟩ := cons_of g79
  obtain ⟨x80, l81, rfl, g81⟩ := cons_of g80
  obtain ⟨x81, l82, rfl, g82⟩ := cons_of g81
  obtain ⟨x82, l83, rfl, g83⟩ := cons_of g82
  obtain ⟨x83, l84, rfl, g84⟩ := cons_of g83
  obtain ⟨x84, l85, rfl, g85⟩ := cons_of g84
  obtain ⟨x85, l86, rfl, g86⟩ := cons_of g85
  obtain ⟨x86, l87, rfl, g87⟩ := cons_of g86
  obtain ⟨x87, l88, rfl, g88⟩ := cons_of g87
  obtain ⟨x88, l89, rfl, g89⟩ := cons_of g88
  obtain ⟨x89, l90, rfl, g90⟩ := cons_of g89
  obtain ⟨x90, l91, rfl, g91⟩ := cons_of g90
  obtain ⟨x91, l92, rfl, g92⟩ := cons_of g91
  obtain ⟨x92, l93, rfl, g93⟩ := cons_of g92
  obtain rfl := List.eq_nil_of_length_eq_zero g93
  have e4 : x4 = _ := h4
  have e5 : x5 = _ := h5
  have e6 : x6 = _ := h6
  have e8 : x8 = _ := h8
  have e11 : x11 = _ := h11
  rw [e4, e5, e6, e8, e11]
  exact ⟨fun i => (x0 :: x1 :: x2 :: x3 :: x4 :: x5 :: x6 :: x7 :: x8 :: x9 :: x10 :: x11 :: x12 :: x13 :: x14 :: x15 :: x16 :: x17 :: x18 :: x19 :: x20 :: x21 :: x22 :: x23 :: x24 :: x25 :: x26 :: x27 :: x28 :: x29 :: x30 :: x31 :: x32 :: x33 :: x34 :: x35 :: x36 :: x37 :: x38 :: x39 :: x40 :: x41 :: x42 :: x43 :: x44 :: x45 :: x46 :: x47 :: x48 :: x49 :: x50 :: x51 :: x52 :: x53 :: x54 :: x55 :: x56 :: x57 :: x58 :: x59 :: x60 :: x61 :: x62 :: x63 :: x64 :: x65 :: x66 :: x67 :: x68 :: x69 :: x70 :: x71 :: x72 :: x73 :: x74 :: x75 :: x76 :: x77 :: x78 :: x79 :: x80 :: x81 :: x82 :: x83 :: x84 :: x85 :: x86 :: x87 :: x88 :: x89 :: x90 :: x91 :: x92 :: []).getD i undef, rfl⟩
/-- the list under way, the words, the title -/
structure Rw (w : World) (q g c : Nat) (acc : List Kl) (v : Value) (ws : List UInt8) (x y : Int) (s : ByteArray) (W : World) : Prop where
  own : Own W w.heap.size g acc.length c acc
  row : W.ownsRow w.heap.size 5 1 v ws.length (ws.map bv)
  bel : Below w.heap.size w W
  ttl : W.heap[q]? = some (.cells #[.int .i64 x, .int .i64 y, .string s] 32 (0, 0))
  hq : w.heap.size ≤ q
  ne : q ≠ g
theorem Rw.later {w X Y : World} {q g c : Nat} {acc : List Kl} {v : Value} {ws : List UInt8} {x y : Int} {s : ByteArray} (h : Rw w q g c acc v ws x y s X) (hb : Below X.heap.size X Y) : Rw w q g c acc v ws x y s Y :=
  ⟨ownsRow_below h.own hb, ownsRow_below h.row hb, laterB h.bel hb, blk_below h.ttl hb, h.hq, h.ne⟩
theorem cut_any {w W : World} (hM : MaxL w) (hb : Below w.heap.size w W) {sr sx sy : ByteArray} {r x r' : List UInt8} {k : Bool} (hr : (⟨r.toArray⟩ : ByteArray) = sr) (hl : r.length ≤ 1048576) (hc : Lib.cut r [10] = (x, r', k)) (hx : (⟨x.toArray⟩ : ByteArray) = sx) (hy : (⟨r'.toArray⟩ : ByteArray) = sy) :
    Calls Tryd.prog 51 #[.string sr, .string ⟨#[10]⟩] W fun e W' => e = .returned (.tuple #[.string sx, .string sy, .bool k]) ∧ Below W.heap.size W W' := by
  subst hr hx hy
  obtain ⟨m, hm⟩ := hM.below hb
  refine (Tryd.strings_Cut ⟨r.toArray⟩ ⟨#[10]⟩ m W (by show r.toArray.size < _; simp; omega) hm).mono ?_
  rintro e W' ⟨rfl, n, rfl⟩
  refine ⟨?_, below_drewN (Below.refl _ _) n⟩
  rw [show (⟨r.toArray⟩ : ByteArray).data.toList = r by simp, show (⟨#[10]⟩ : ByteArray).data.toList = [10] from rfl, hc]
/-- the code behind a label -/
noncomputable def body49 : Code := match Tryd.f28.body with | some (.seq _ (.scope c)) => c | some (.scope c) => c | _ => .skip
def tailC : Code → Code | .seq _ b => b | c => c
noncomputable def X49 (l : Nat) : Code := tailC (behind body49 l)
/-- where a label is left for another -/
structure Go1 (w : World) (R : List Kl × Int) (q : Nat) (J : Nat → Nat → Act → World → Prop) : Prop where
  j0 : ∀ {t W g c v sr e acc ws x y s r}, At q g c acc.length v sr e t → Rw w q g c acc v ws x y s W → (⟨r.toArray⟩ : ByteArray) = sr → r.length ≤ 1048576 → acc.length ≤ 200 → L0 R acc e r → J 0 (2 * r.length) ⟨t, []⟩ W
  j1 : ∀ {t W g c v sr e acc ws x y s r}, At q g c acc.length v sr e t → Rw w q g c acc v ws x y s W → (⟨r.toArray⟩ : ByteArray) = sr → r.length ≤ 1048576 → acc.length ≤ 200 → L1 R acc e r → J 1 (2 * r.length) ⟨t, []⟩ W
  j2 : ∀ {t W g c v sr e acc ws s r} {a b : Nat}, At q g c acc.length v sr e t → Rw w q g c acc v ws a b s W → (⟨r.toArray⟩ : ByteArray) = sr → ws.length + r.length ≤ 1048576 → acc.length ≤ 200 → L2 R acc a b ws r → J 2 (2 * r.length) ⟨t, []⟩ W
  j3 : ∀ {t W g c v sr e acc ws s r} {a b : Nat}, At q g c acc.length v sr e t → Rw w q g c acc v ws a b s W → (⟨r.toArray⟩ : ByteArray) = sr → ws.length + r.length ≤ 1048576 → acc.length ≤ 200 → L3 R acc a b ws r → J 3 (2 * r.length + 1) ⟨t, []⟩ W
/-- where the reading ends -/
def EndQ (w : World) (R : List Kl × Int) (Q : Exit → Act → World → Prop) : Prop :=
  ∀ (t : Array Value) (W : World) (g c : Nat) (l : List Kl) (k : Int), t.getD 2 undef = .slice (some ⟨g, 0, none⟩) l.length c → t.getD 3 undef = .int .i64 k → R = (l, k) → l.length ≤ 200 → Own W w.heap.size g l.length c l → Below w.heap.size w W → Q .ret ⟨t, []⟩ W
theorem empty_str {r : List UInt8} {s : ByteArray} (h : (⟨r.toArray⟩ : ByteArray) = s) (hr : r ≠ []) : s.toList.isEmpty = false := by
  subst h
  rw [Lib.toList_data]
  cases r with
  | nil => exact absurd rfl hr
  | cons a r => rfl
theorem ne_str {a b : List UInt8} {s s' : ByteArray} (h : (⟨a.toArray⟩ : ByteArray) = s) (h' : (⟨b.toArray⟩ : ByteArray) = s') (hr : a ≠ b) : (s.toList == s'.toList) = false := by
  subst h h'
  refine str_ne ?_
  intro e
  apply hr
  have := congrArg (fun b : ByteArray => b.data.toList) e
  simpa using this
set_option maxRecDepth 100000 in
set_option maxHeartbeats 6400000 in
theorem at0 {w W : World} {R : List Kl × Int} {q g c : Nat} {acc : List Kl} {e x y : Int} {r ws : List UInt8} {s sr : ByteArray} {v : Value} {t : Array Value} {J : Nat → Nat → Act → World → Prop} {Q : Exit → Act → World → Prop} (hM : MaxL w) (hT : Tab w) (hG : Go1 w R q J) (hQ : EndQ w R Q)
    (hA : At q g c acc.length v sr e t) (S : Rw w q g c acc v ws x y s W) (hr : (⟨r.toArray⟩ : ByteArray) = sr) (hl : r.length ≤ 1048576) (hn : acc.length ≤ 200) (hL : L0 R acc e r) : (X49 0).wp Tryd.prog (jmp J (2 * r.length) Q) ⟨t, []⟩ W := by
  obtain ⟨u, rfl⟩ := hA.split
  conv => arg 2; whnf
  have S := hide S
  have hG := hide hG
  have hQ := hide hQ
  by_cases hr0 : r = []
  · subst hr0
    subst hr
    have hR := hide (l0_nil hL)
    have he : ((⟨([] : List UInt8).toArray⟩ : ByteArray).toList == (⟨#[]⟩ : ByteArray).toList) = true := str_eq _
    clear hL hA hM hT hG
    go_wp2
    rw [jmp_ret]
    exact unhide hQ _ _ _ _ acc _ rfl rfl (unhide hR) hn (unhide S).own (unhide S).bel
  have he := empty_str hr hr0
  have hL := hide hL
  cases hc : cutN r with
  | none =>
    have hR := hide (l0_none (unhide hL) hr0 hc)
    have cC := hide (cut_any hM (unhide S).bel hr hl (by rw [cut_nl, hc]) rfl rfl)
    clear hL hA hM hT hG
    go_wp2_with fail
    refine (unhide cC).mono ?_
    rintro e w1 ⟨rfl, kb⟩
    have S := hide ((unhide S).later kb)
    clear kb cC
    go_wp2
    rw [jmp_ret]
    exact unhide hQ _ _ _ _ acc _ rfl rfl (unhide hR) hn (unhide S).own (unhide S).bel
  | some p =>
    obtain ⟨l, r1⟩ := p
    have hlen := cutN_len hc
    obtain ⟨sl, hsl⟩ : ∃ z, (⟨l.toArray⟩ : ByteArray) = z := ⟨_, rfl⟩
    obtain ⟨s1, hs1⟩ : ∃ z, (⟨r1.toArray⟩ : ByteArray) = z := ⟨_, rfl⟩
    obtain ⟨sn, hsn⟩ : ∃ z, (⟨(Pl.dec (acc.length + 1)).toArray⟩ : ByteArray) = z := ⟨_, rfl⟩
    have cC := hide (cut_any hM (unhide S).bel hr hl (by rw [cut_nl, hc]) hsl hs1)
    have cN := hide (fun w' (h : Below w.heap.size w w') => inum_any acc.length w' (by omega) (hT.below h))
    rw [hsn] at cN
    by_cases hx : l = Pl.dec (acc.length + 1)
    · have hJ := hide (l0_ok (unhide hL) hr0 hc hx)
      have heq : (sl.toList == sn.toList) = true := by rw [← hsl, ← hsn, hx]; exact str_eq _
      clear hL hA hM hT hQ hc
      go_wp2_with fail
      refine (unhide cC).mono ?_
      rintro e w1 ⟨rfl, kb⟩
      have S := hide ((unhide S).later kb)
      clear kb cC
      go_wp2_with fail
      refine (unhide cN _ (unhide S).bel).mono ?_
      rintro e w2 ⟨rfl, kb⟩
      have S := hide ((unhide S).later kb)
      clear kb cN
      go_wp2
      go_step3
      show ∃ n', n' < 2 * r.length ∧ J 1 n' _ _
      exact ⟨2 * r1.length, by omega, (unhide hG).j1 ⟨rfl, rfl, rfl, rfl, rfl, rfl⟩ (unhide S) hs1 (by omega) hn (unhide hJ)⟩
    · have hR := hide (l0_bad (unhide hL) hr0 hc hx)
      have heq : (sl.toList == sn.toList) = false := ne_str hsl hsn hx
      clear hL hA hM hT hG hc
      go_wp2_with fail
      refine (unhide cC).mono ?_
      rintro e w1 ⟨rfl, kb⟩
      have S := hide ((unhide S).later kb)
      clear kb cC
      go_wp2_with fail
      refine (unhide cN _ (unhide S).bel).mono ?_
      rintro e w2 ⟨rfl, kb⟩
      have S := hide ((unhide S).later kb)
      clear kb cN
      go_wp2
      rw [jmp_ret]
      exact unhide hQ _ _ _ _ acc _ rfl rfl (unhide hR) hn (unhide S).own (unhide S).bel

end Go.Proofs.YtcpllfjhhlbmiaaDoor
