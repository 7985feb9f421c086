/-
  Contracts: squared, and the model's Squares: the mean of the squares of each whole block.
-/
import Derived.Test.YtdemcjppokhonaaLf
namespace Go.Proofs.Ytdemcjppokhonaa
open Go.RowKit
set_option linter.unusedVariables false
set_option linter.unusedSimpArgs false

/-- the squares -/
def sqs (l : List Nat) : List Nat := l.map fun x => nv .mul x x
/-- block j of them -/
def blkq (l : List Nat) (s j : Nat) : List Nat := ((sqs l).drop (j * s)).take s
/-- its mean -/
def sqB (l : List Nat) (s j : Nat) : Nat := meanV (blkq l s j)
theorem sqs_len (l : List Nat) : (sqs l).length = l.length := by simp [sqs]
theorem blkq_len {l : List Nat} {s j : Nat} (h : j * s + s ≤ l.length) : (blkq l s j).length = s := by
  unfold blkq; rw [List.length_take, List.length_drop, sqs_len]; omega
theorem blkq_take_snoc {l : List Nat} {s j m x : Nat} (hm : m < s) (h : l[j * s + m]? = some x) : (blkq l s j).take (m + 1) = (blkq l s j).take m ++ [nv .mul x x] := by
  have : (blkq l s j)[m]? = some (nv .mul x x) := by
    unfold blkq sqs
    rw [List.getElem?_take_of_lt hm, List.getElem?_drop, List.getElem?_map, h]
    rfl
  exact take_snoc this
theorem sqB_eq {l : List Nat} {s j : Nat} (h : j * s + s ≤ l.length) (hs : 0 < s) : sqB l s j = nv .quo (sumV (blkq l s j)) (floatOfInt .f64 s) := by
  unfold sqB meanV
  rw [blkq_len h, if_neg (by omega)]

def sqN (l : List Nat) (n : Int) : Nat := if l.length ≤ 4096 ∧ 1 ≤ n ∧ n ≤ 4096 then l.length / n.toNat else 0
theorem sqN_le (l : List Nat) (n : Int) : sqN l n ≤ 4096 := by
  unfold sqN
  split
  · exact Nat.le_trans (Nat.div_le_self _ _) (by omega)
  · omega

set_option maxHeartbeats 1600000 in
theorem squ_any (a : Option Addr) (ca : Nat) (l : List Nat) (w : World) (hl : l.length ≤ 4096) (ha : Fls false 0 w.heap.size w a l) :
    Calls Try.prog 51 #[.slice a l.length ca] w (Ans (fun j => nv .mul (nth l j) (nth l j)) l.length w) := by
  have ha' := hide ha
  clear ha
  obtain ⟨i0, hi, hz0, hz1, hz2⟩ := info_parts info22
  go_enter Try.func51, Try.ntmps51
  go_wp2_with (refine wpList_make_own _ rfl _ _ 24 rfl w.heap.size 25 i0 (.float .f64 0) 1 Try.underlying24 hi hz0 hz1 .i64 .i64 _ l.length rfl rfl rfl ?b2 ?b3 (Nat.le_refl _) ?_)
  case b2 => rw [hz2]; omega
  case b3 => unfold maxLen; omega
  intro w1 hown hg
  have hb1' := hide (show Below w.heap.size w w1 from (Below.refl _ _).grown hg (Nat.le_refl _) (fun k hk => by cases hk))
  have hown1 : Hid (w1.ownsRow w.heap.size 25 1 (.slice (some ⟨w.heap.size, 0, none⟩) 0 l.length) 0 (([] : List Nat).map fl)) := hide (by simpa using hown)
  clear hown hg
  go_wp2
  go_loopw [3, 11] (fun s t wr => ∃ (k g cap : Nat) (L : List Nat), k ≤ l.length ∧ t = .int .i64 k ∧ s = .slice (some ⟨g, 0, none⟩) k cap ∧ w.heap.size ≤ g ∧ Hid (wr.ownsRow w.heap.size 25 1 (.slice (some ⟨g, 0, none⟩) k cap) k (L.map fl)) ∧ Hid (Ls (fun j => nv .mul (nth l j) (nth l j)) k L) ∧ Hid (Below w.heap.size w wr)) (fun _ t _ => l.length - (intOf t).toNat)
  case atStart => exact ⟨0, w.heap.size, l.length, [], by omega, rfl, rfl, Nat.le_refl _, hown1, hide (Ls.nil _), hb1'⟩
  case round =>
    clear hown1 hb1'
    obtain ⟨k, g, cap, L, hk, rfl, rfl, hg, hown, hpw, hw⟩ := hrel
    by_cases hlt : k < l.length
    · obtain ⟨x, hx⟩ : ∃ x, l[k]? = some x := ⟨l[k], List.getElem?_eq_getElem hlt⟩
      have hstep : Hid (∀ v, Sm v (nv .mul x x) → Ls (fun j => nv .mul (nth l j) (nth l j)) (k + 1) (L ++ [v])) := hide fun v h => (unhide hpw).snoc (by rw [nth_of hx]; exact h)
      obtain ⟨b1, o1, rfl, _, i1, c0, _⟩ := unhide ha' k x hx
      have d0 : wr.cell? ⟨b1, o1 + k, none⟩ = some (.float .f64 x) := by rw [(bcell (unhide hw)).1 _ _ i1]; exact c0
      clear hx c0 hpw
      go_wp2_with fail
      refine (rp_any x x _).mono ?_
      rintro e w4 ⟨v, rfl, hv, hb⟩
      have hL := hide (unhide hstep v hv)
      have o4 := hide (ownsRow_below (unhide hown) hb)
      have b4 := hide (laterB (unhide hw) hb)
      have s4 := (unhide b4).size
      clear hv hstep hown hw hb d0
      go_wp2_with (refine wpList_flA w4 rfl _ _ rfl w.heap.size g k cap L v rfl (unhide o4) rfl (by omega) s4 ?_)
      intro g' cap' w' hown' hbel' hg'
      have hown2 := hide hown'
      have hw2 := hide ((unhide b4).trans hbel')
      clear hown' hbel' o4 b4
      go_wp2
      go_roundw
      case rel => exact ⟨k + 1, g', cap', _, by omega, by go_num, rfl, hg', re_map hown2, hL, hw2⟩
      case measure => simp [intOf]; omega
    · have hke : k = l.length := by omega
      have hfin : Hid (Ls (fun j => nv .mul (nth l j) (nth l j)) l.length L) := hide (by have := unhide hpw; rw [hke] at this; exact this)
      have ho := hide (show wr.ownsRow w.heap.size 25 1 (.slice (some ⟨g, 0, none⟩) l.length cap) l.length (L.map fl) by have := unhide hown; rw [hke] at this; exact this)
      have hd : decide ((k : Int) < (l.length : Int)) = false := decide_eq_false (by omega)
      clear hpw hown
      have hk2 := hide hke
      subst hke
      clear hk2 hd
      go_wp2
      go_ret
      exact Ans.mk hg (unhide ho) (unhide hfin) (unhide hw)
end Go.Proofs.Ytdemcjppokhonaa
