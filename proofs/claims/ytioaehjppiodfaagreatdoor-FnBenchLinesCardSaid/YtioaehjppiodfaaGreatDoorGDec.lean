/-
  The bench: the program's contract; what was there stays.
  Plain facts on decimal digits: the digits of a whole number from 0 on, and of one in at least so many digits. No program is named here; there are no conditions.
-/
import Derived.Test.YtioaehjppiodfaaGreatDoorGBnI
import Derived.WalkKit
namespace Go.Proofs.YtioaehjppiodfaaGreatDoor
open Go.RowKit
set_option linter.unusedVariables false
set_option linter.unusedSimpArgs false

theorem trim_any (x : List UInt8) (hx : x.length ≤ 20000) (w : World) : Calls Tryz.prog 16 #[.string ⟨x.toArray⟩, .string ⟨#[10]⟩] w fun e w' => e = .returned (.string (bsL (strip x))) ∧ w' = w := by
  have := Tryz.strings_TrimSuffix ⟨x.toArray⟩ ⟨#[10]⟩ w (by show x.toArray.size ≤ _; simp; omega)
  simpa [strip, bsL] using this
theorem strip_len (x : List UInt8) : (strip x).length ≤ x.length := by
  unfold strip Lib.trimSuffix
  split
  · simp
  · omega

theorem gv_of {w w' : World} (h : Gv w) (hb : Below w.heap.size w w') : Gv w' := h.below hb
theorem answer_any (N bB M : Nat) (s : Bch) (X : ByteArray) (w : World) (hX : X.size ≤ 20000) (hM : DM w M (entL M 13)) (hD : ∀ i, i < 13 → DV w M i) (hB : BS N w bB s) (hn : s.2.length ≤ 300) (hG : Gv w) :
    Calls Tryz.prog 19 #[.pointer (some ⟨bB, 0, none⟩), .string X, .map (some M)] w (DeedR N bB (lineS X.data.toList s) w) := by
  obtain ⟨x, ys, hW⟩ := wordsL_ne X.data.toList
  exact answer_at N bB M s X x ys _ w hX hW rfl hM hD hB hn hG

set_option maxRecDepth 100000 in
set_option maxHeartbeats 3200000 in
theorem bench_any (s : ByteArray) (w : World) (hs : s.size ≤ 9223372036854775807) (hG : Gv w) :
    Calls Tryz.prog 10 #[.string s] w fun e w' => e = .returned (.string ⟨(benchL s.data.toList).toArray⟩) ∧ Below w.heap.size w w' := by
  have hG' := hide hG
  clear hG
  by_cases hbig : 20000 < s.size
  · have hb : Hid (benchL s.data.toList = []) := hide (by unfold benchL; rw [if_pos (by rw [← Lib.size_eq]; exact hbig)])
    have g1 : decide ((20000 : Int) < s.size) = true := by simp; omega
    go_enter Tryz.func10, Tryz.ntmps10
    go_wp2
    go_ret
    rw [unhide hb]
    exact ⟨rfl, Below.refl _ _⟩
  have g1 : decide ((20000 : Int) < s.size) = false := by simp; omega
  have hz : s.size ≤ 20000 := by omega
  obtain ⟨T, hT⟩ : ∃ T, Ln.rawL s.data.toList = T := ⟨_, rfl⟩
  have hbn : Hid (benchL s.data.toList = if 200 < T.length then [] else (foldB T).1) := hide (by unfold benchL; rw [if_neg (by rw [← Lib.size_eq]; exact hbig), hT])
  have hTm : Hid (∀ x ∈ T, x.length ≤ 20000) := hide (fun x hx => by rw [← hT] at hx; have := Ln.rawL_mem x hx; rw [← Lib.size_eq] at this; omega)
  have hco := hide (Ln.coll_any w.heap.size s (w.alloc (.cells #[.string s] 9)) (Boxed.new w 9 _) hz)
  rw [hT] at hco
  have hbA := hide (show Below w.heap.size w (w.alloc (.cells #[.string s] 9)) from (Below.refl _ _).alloc (Nat.le_refl _) _)
  clear hbig hT
  go_enter Tryz.func10, Tryz.ntmps10
  go_wp2_with fail
  refine (Ln.lines_any s w).mono ?_
  rintro e w1 ⟨rfl, rfl⟩
  go_wp2_with fail
  refine (unhide hco).mono ?_
  rintro e w2 ⟨v, rfl, own2, b2⟩
  have b2' := hide ((unhide hbA).trans b2)
  obtain ⟨a, c, rfl, hln⟩ := lines_in (n := 0) own2
  have hln' := hide hln
  clear own2 b2 hbA hco hln
  by_cases hmany : 200 < T.length
  · have g2 : decide ((200 : Int) < T.length) = true := by simp; omega
    go_wp2
    go_ret
    rw [unhide hbn, if_pos (by omega)]
    exact ⟨rfl, unhide b2'⟩
  have hT200 : T.length ≤ 200 := by omega
  have g2 : decide ((200 : Int) < T.length) = false := by simp; omega
  rw [if_neg hmany] at hbn
  clear hmany
  have hX1 := hide (show Below w.heap.size w (w2.alloc (.cells #[.slice none 0 0, .slice none 0 0] 41)) from (unhide b2').alloc (unhide b2').size _)
  go_wp2_with fail
  refine (deeds_any _).mono ?_
  rintro e w3 ⟨rfl, hm⟩
  have W0b : Hid (Bw w (w3.alloc (.cells #[.pointer none, .slice none 0 0] 46)) w2.heap.size w3.heap.size (w2.heap.size + 1) ([], []) [] (w3.alloc (.cells #[.pointer none, .slice none 0 0] 46))) := by
    have hX3 : Below w.heap.size w w3 := (unhide hX1).trans (hm.bl.mono (unhide hX1).size)
    have hX4 := hX3.alloc hX3.size (.cells #[.pointer none, .slice none 0 0] 46)
    have hw2 := (unhide b2').size
    refine hide ⟨⟨⟨.slice none 0 0, .slice none 0 0, [], ?_, KT.nil _, World.ownsRow_nil _ _ _ _, fun j l h => by simp at h⟩, hw2, ok_nil⟩, Lib.IsBuilderF.of (Lib.fresh_isBuilder 46 5 w3), hX4, hX3.size, fun k o h _ _ _ => h⟩
    have e1 : (w2.alloc (.cells #[.slice none 0 0, .slice none 0 0] 41)).heap[w2.heap.size]? = some (.cells #[.slice none 0 0, .slice none 0 0] 41 (0, 0)) := World.alloc_heap_new _ _
    have e2 := (hm.bl.block w2.heap.size (by simp)).trans e1
    have hl3 : w2.heap.size < w3.heap.size := (Array.getElem?_eq_some_iff.1 e2).1
    exact (((Below.refl w3.heap.size w3).alloc (Nat.le_refl _) _).block _ hl3).trans e2
  have hsz3 : w3.heap.size = w2.heap.size + 1 + 35 := by have := hm.sz; simpa [szL] using this
  have hMs : (w2.alloc (.cells #[.slice none 0 0, .slice none 0 0] 41)).heap.size = w2.heap.size + 1 := by simp
  have hDM : Hid (DM (w3.alloc (.cells #[.pointer none, .slice none 0 0] 46)) (w2.heap.size + 1) (entL (w2.heap.size + 1) 13) ∧ ∀ i, i < 13 → DV (w3.alloc (.cells #[.pointer none, .slice none 0 0] 46)) (w2.heap.size + 1) i) := by
    have hb3 : Below w3.heap.size w3 (w3.alloc (.cells #[.pointer none, .slice none 0 0] 46)) := (Below.refl _ _).alloc (Nat.le_refl _) _
    have h1 := hm.dm
    have h2 := hm.dv
    rw [hMs] at h1 h2
    exact hide ⟨h1.kept (hb3.block _ h1.lt), fun i hi => (h2 i hi).grown hi (fun b _ h4 => hb3.block b h4)⟩
  have hLn : Hid (∀ (k : Nat) x, T[k]? = some x → ∀ s L W, Bw w (w3.alloc (.cells #[.pointer none, .slice none 0 0] 46)) w2.heap.size w3.heap.size (w2.heap.size + 1) s L W → ∃ g, a = some ⟨g, 0, none⟩ ∧ W.cell? ⟨g, k, none⟩ = some (.string ⟨x.toArray⟩)) := by
    refine hide (fun k x hx s L W hW => ?_)
    obtain ⟨g, hg, ⟨cs, fz, hc⟩, hcell⟩ := unhide hln' k x hx
    refine ⟨g, hg, ?_⟩
    have hl2 : g < w2.heap.size := (Array.getElem?_eq_some_iff.1 hc).1
    have e1 : (w3.alloc (.cells #[.pointer none, .slice none 0 0] 46)).heap[g]? = some (.cells cs 9 fz) := by
      rw [((Below.refl w3.heap.size w3).alloc (Nat.le_refl _) _).block g (by omega), hm.bl.block g (by rw [hMs]; omega), ((Below.refl w2.heap.size w2).alloc (Nat.le_refl _) _).block g hl2]
      exact hc
    have e2 := hW.old g _ e1 (by omega) (by omega) (fun c f e => by cases e)
    exact (World.cell?_of_block (a := ⟨g, k, none⟩) (e2.trans hc.symm)).trans hcell
  have hN := (unhide b2').size
  have hsz4 := hide hsz3
  clear hm hln' hX1 b2' hsz3
  rw [hMs]
  clear hMs
  go_wp2_with fail
  generalize w3.alloc (.cells #[.pointer none, .slice none 0 0] 46) = W0 at *
  generalize w3.heap.size = b at *
  generalize w2.heap.size = bB at *
  go_loopw [24] (fun t wr => ∃ k : Nat, k ≤ T.length ∧ t = .int .i64 k ∧ Hid (Bw w W0 bB b (bB + 1) (foldB (T.take k)).2 (foldB (T.take k)).1 wr)) (fun t _ => T.length - (intOf t).toNat)
  case atStart => exact ⟨0, by omega, rfl, W0b⟩
  case round =>
    clear W0b
    obtain ⟨k, hk, rfl, hw⟩ := hrel
    by_cases hlt : k < T.length
    · have g3 : decide ((k : Int) < T.length) = true := by simp; omega
      obtain ⟨x, hx⟩ : ∃ x, T[k]? = some x := ⟨T[k], List.getElem?_eq_getElem hlt⟩
      obtain ⟨g, rfl, hcell⟩ := unhide hLn k x hx _ _ _ (unhide hw)
      have hxl := unhide hTm x (List.mem_of_getElem? hx)
      have hstep := hide (foldB_take hx)
      have hfine := hide (fold_fine_at T (k := k) (by omega))
      have hxl2 := strip_len x
      generalize foldB (T.take k) = F at *
      obtain ⟨L, st⟩ := F
      dsimp only at hw
      have htr := hide (trim_any x hxl wr)
      clear hx
      go_wp2_with fail
      refine (unhide htr).mono ?_
      rintro e w5 ⟨rfl, rfl⟩
      clear htr
      by_cases hem : strip x = []
      · have hst : Hid (foldB (T.take (k + 1)) = (L, st)) := hide (by rw [unhide hstep]; unfold stepB; rw [if_pos hem])
        rw [hem, show bsL [] = (⟨#[]⟩ : ByteArray) from rfl]
        go_wp2
        go_roundw
        case rel => exact ⟨k + 1, by omega, by go_num, by rw [unhide hst]; exact hw⟩
        case measure => simp [intOf]; omega
      · have hst : Hid (foldB (T.take (k + 1)) = (L ++ (atL (lineS (strip x) st).1 ++ [10]), (lineS (strip x) st).2)) := hide (by rw [unhide hstep]; unfold stepB; rw [if_neg hem])
        have hne : bsL (strip x) ≠ (⟨#[]⟩ : ByteArray) := by
          intro e
          apply hem
          have : (bsL (strip x)).data.toList = (⟨#[]⟩ : ByteArray).data.toList := by rw [e]
          simpa [bsL] using this
        have n2 : decide (bsL (strip x) = (⟨#[]⟩ : ByteArray)) = false := by simpa using hne
        have n3 : ((bsL (strip x)).toList == (⟨#[]⟩ : ByteArray).toList) = false := by rw [beq_bytes]; exact n2
        have n4 : (bsL (strip x)).toList.isEmpty = false := by
          cases h9 : (bsL (strip x)).toList with
          | nil => rw [h9, Lib.toList_data] at n3; exact absurd n3 (by decide)
          | cons p q => rfl
        clear n3 n2
        obtain ⟨hf1, hf2, hf3⟩ := unhide hfine
        have hlf := line_fine (strip x) hf1
        have hal := atL_len hlf.1
        have hmp := (unhide hw).map (unhide hDM).1 (unhide hDM).2 (by omega) (by have := unhide hsz4; omega)
        have hbz : (bsL (strip x)).size ≤ 20000 := by show (strip x).toArray.size ≤ _; simp; omega
        have hAn := answer_any w.heap.size bB (bB + 1) st (bsL (strip x)) _ hbz hmp.1 hmp.2 (unhide hw).bs (by omega) (gv_of (unhide hG') (unhide hw).bel)
        rw [show (bsL (strip x)).data.toList = strip x by simp [bsL]] at hAn
        have hAn' := hide hAn
        have hok := hide hlf.1
        have hLl : L.length ≤ 200 * 70001 := by exact Nat.le_trans hf3 (Nat.mul_le_mul_right _ (by omega))
        clear hem hne hstep hfine hf1 hf2 hf3 hlf hmp hAn hcell
        generalize lineS (strip x) st = R at *
        obtain ⟨A, st'⟩ := R
        dsimp only at hal hok hst
        generalize bsL (strip x) = X at *
        clear hxl2 hbz
        go_wp2_with fail
        refine (unhide hAn').mono ?_
        rintro e w6 ⟨v, rfl, hv, hBS, hKb⟩
        have hw6 := hide ((unhide hw).deed hKb hBS)
        have hTx := hide (atext_any v A w6 hv (unhide hok) (gv_of (unhide hG') (unhide hw6).bel))
        unfold atext at hTx
        clear hv hBS hKb hAn' hw
        obtain ⟨tx, htx⟩ : ∃ tx : ByteArray, (⟨(Lib.join (awords A) [32]).toArray⟩ : ByteArray) = tx := ⟨_, rfl⟩
        rw [htx] at hTx
        go_wp2_with fail
        refine (unhide hTx).mono ?_
        rintro e w7 ⟨rfl, b7⟩
        have hw7 := hide ((unhide hw6).below b7)
        clear b7 hTx hw6
        have hsz : tx.size ≤ 70000 := by rw [← htx]; show (Lib.join (awords A) [32]).toArray.size ≤ _; unfold atL at hal; simpa using hal
        have hbc : (Lib.byteCells L).length = L.length := by simp [Lib.byteCells]
        have hWs := hide (Tryz.Builder_WriteString_k b b (Lib.byteCells L) tx w7 (unhide hw7).iB (by rw [hbc]; omega) (by have := (unhide hw7).lt; omega))
        have htx' := hide htx
        clear htx hsz
        go_wp2_with fail
        refine (unhide hWs).mono ?_
        rintro e w8 ⟨rfl, hA8, hB8, hO8⟩
        have hw8 := hide ((unhide hw7).write (unhide htx') hA8 hB8 hO8)
        clear hA8 hB8 hO8 hw7 hWs
        have hbc2 : (Lib.byteCells (L ++ Lib.join (awords A) [32])).length ≤ 200 * 70001 + 70000 := by
          unfold atL at hal
          simp [Lib.byteCells]; omega
        have hWs := hide (Tryz.Builder_WriteString_k b b (Lib.byteCells (L ++ Lib.join (awords A) [32])) ⟨#[10]⟩ w8 (unhide hw8).iB (by have : (⟨#[10]⟩ : ByteArray).size = 1 := rfl; omega) (by have := (unhide hw8).lt; omega))
        go_wp2_with fail
        refine (unhide hWs).mono ?_
        rintro e w9 ⟨rfl, hA9, hB9, hO9⟩
        have hw9 := hide ((unhide hw8).write (l := [10]) rfl hA9 hB9 hO9)
        clear hA9 hB9 hO9 hw8 hWs
        go_wp2
        go_roundw
        case rel => exact ⟨k + 1, by omega, by go_num, by rw [unhide hst]; have := unhide hw9; rw [List.append_assoc] at this; exact hide this⟩
        case measure => simp [intOf]; omega
    · have g3 : decide ((k : Int) < T.length) = false := by simp; omega
      obtain rfl : k = T.length := by omega
      have hw2 : Hid (Bw w W0 bB b (bB + 1) (foldB T).2 (foldB T).1 wr) := hide (by have := unhide hw; rwa [List.take_length] at this)
      have hlt2 := (unhide hw2).lt
      clear hw
      generalize foldB T = F at *
      obtain ⟨L, st⟩ := F
      have hS := hide (Tryz.Builder_String_any_k b b L wr (unhide hw2).iB (by omega))
      go_wp2_with fail
      refine (unhide hS).mono ?_
      rintro e w9 ⟨rfl, _, kb, _⟩
      have hB9 := hide ((unhide hw2).bel.trans (kb.mono (unhide hw2).hb))
      clear kb hw2
      go_wp2
      go_ret
      rw [unhide hbn]
      exact ⟨rfl, unhide hB9⟩
end Go.Proofs.YtioaehjppiodfaaGreatDoor

namespace Go.Proofs.YtioaehjppiodfaaGreatDoor.Pl

def dg (n : Nat) : UInt8 := UInt8.ofNat (48 + n % 10)
theorem dg_toNat (n : Nat) : (dg n).toNat = 48 + n % 10 := by unfold dg; simp; omega

def decF : Nat → Nat → List UInt8
  | 0, _ => []
  | k + 1, n => if n < 10 then [dg n] else decF k (n / 10) ++ [dg n]
def dec (n : Nat) : List UInt8 := decF (n + 1) n
theorem decF_enough : ∀ (f g n : Nat), n < f → n < g → decF f n = decF g n := by
  intro f
  induction f with
  | zero => intro g n h; omega
  | succ f ih =>
    intro g n h1 h2
    cases g with
    | zero => omega
    | succ g =>
      unfold decF
      by_cases h : n < 10
      · rw [if_pos h, if_pos h]
      · rw [if_neg h, if_neg h, ih g (n / 10) (by omega) (by omega)]
theorem dec_small {n : Nat} (h : n < 10) : dec n = [dg n] := by unfold dec decF; rw [if_pos h]
theorem dec_step {n : Nat} (h : 10 ≤ n) : dec n = dec (n / 10) ++ [dg n] := by
  unfold dec
  rw [decF, if_neg (by omega), decF_enough n (n / 10 + 1) (n / 10) (by omega) (by omega)]
/-- the digits of what is left ahead of what is there; nothing of 0 -/
def decOn (x : Nat) (acc : List UInt8) : List UInt8 := if x = 0 then acc else dec x ++ acc
theorem decOn_step {x : Nat} (acc : List UInt8) (h : x ≠ 0) : decOn (x / 10) (dg x :: acc) = decOn x acc := by
  unfold decOn
  rw [if_neg h]
  by_cases h1 : x < 10
  · rw [if_pos (by omega), dec_small h1]; rfl
  · rw [if_neg (by omega), dec_step (n := x) (by omega)]; simp
theorem decOn_first (n : Nat) : decOn (n / 10) [dg n] = dec n := by
  by_cases h : n = 0
  · subst h; rfl
  · rw [decOn_step [] h, decOn, if_neg h, List.append_nil]
theorem dec_length_lt : ∀ (k n : Nat), n < 10 ^ (k + 1) → (dec n).length ≤ k + 1 := by
  intro k
  induction k with
  | zero => intro n h; rw [dec_small (by simpa using h)]; simp
  | succ k ih =>
    intro n h
    by_cases h1 : n < 10
    · rw [dec_small h1]; simp
    · rw [dec_step (by omega)]
      have := ih (n / 10) (by rw [Nat.pow_succ] at h; omega)
      simp; omega
theorem dec_ne (n : Nat) : dec n ≠ [] := by
  by_cases h : n < 10
  · rw [dec_small h]; simp
  · rw [dec_step (by omega)]; simp

/-- in at least k digits -/
def wide (k n : Nat) : List UInt8 := List.replicate (k - (dec n).length) 48 ++ dec n
def two (n : Nat) : List UInt8 := [dg (n / 10), dg n]
def three (n : Nat) : List UInt8 := [dg (n / 100), dg (n / 10), dg n]
theorem dec_two {n : Nat} (h : 10 ≤ n) (h2 : n < 100) : dec n = [dg (n / 10), dg n] := by rw [dec_step h, dec_small (by omega)]; rfl
theorem dec_three {n : Nat} (h : 100 ≤ n) (h2 : n < 1000) : dec n = [dg (n / 100), dg (n / 10), dg n] := by
  rw [dec_step (by omega), dec_two (by omega) (by omega), show n / 10 / 10 = n / 100 by omega]; rfl
theorem dg_zero {n : Nat} (h : n % 10 = 0) : dg n = 48 := by unfold dg; rw [h]; rfl
theorem wide_two {n : Nat} (h : n < 100) : wide 2 n = two n := by
  unfold wide two
  by_cases h1 : n < 10
  · rw [dec_small h1, dg_zero (n := n / 10) (by omega)]; rfl
  · rw [dec_two (by omega) h]; rfl
theorem wide_three {n : Nat} (h : n < 1000) : wide 3 n = three n := by
  unfold wide three
  by_cases h1 : n < 10
  · rw [dec_small h1, dg_zero (n := n / 10) (by omega), dg_zero (n := n / 100) (by omega)]; rfl
  by_cases h2 : n < 100
  · rw [dec_two (by omega) h2, dg_zero (n := n / 100) (by omega)]; rfl
  · rw [dec_three (by omega) h]; rfl

end Go.Proofs.YtioaehjppiodfaaGreatDoor.Pl
