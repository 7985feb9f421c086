/-
  Contracts of the program's sizes: how many bytes boxes are shown in, and a size in four bytes behind what is there.
-/
import Derived.Test.YtfdbnlmfnhhcbaaShowP
import Derived.Test.YtfdbnlmfnhhcbaaCopy3
import Derived.Test.YtfdbnlmfnhhcbaaApp
import Derived.Test.YtfdbnlmfnhhcbaaMark
import Derived.Test.YtfdbnlmfnhhcbaaIFind
namespace Go.Proofs.Ytfdbnlmfnhhcbaa
open Go.RowKit
set_option linter.unusedVariables false
set_option linter.unusedSimpArgs false

theorem Only.grown {S : Nat → Prop} {a w w' : World} {ob : Option Nat} (h : Only S a w) (hg : w.grownBy w' ob) (hS : ∀ g, ob = some g → g < a.heap.size → S g) : Only S a w' := by
  have b := (Below.refl 0 w).grown hg (Nat.zero_le _) (fun g _ => Nat.zero_le _)
  refine ⟨b.os.trans h.1, b.tape.trans h.2.1, b.output.trans h.2.2.1, Nat.le_trans h.2.2.2.1 b.size, fun i hi hn => ?_⟩
  exact (hg.block i (Nat.lt_of_lt_of_le hi h.2.2.2.1) (fun e => hn (hS i e.symm hi))).trans (h.2.2.2.2 i hi hn)
theorem Only.alloc {S : Nat → Prop} {a w : World} (h : Only S a w) (o : Obj) : Only S a (w.alloc o) := h.trans (Only.of ((Below.refl _ _).alloc (Nat.le_refl _) _))
theorem tot_take_le (l : List Bx) (k : Nat) : tot (l.take k) ≤ tot l := by
  conv => rhs; rw [← List.take_append_drop k l]
  rw [tot_append]; omega

set_option maxHeartbeats 800000 in
theorem sb_any (a : Option Addr) (cap : Nat) (A : Nat → Option Addr × Nat) (l : List Bx) (w : World) (hl : tot l ≤ 1000000) (hr : Bxs false 0 w.heap.size w a A l) :
    Calls Try.prog 17 #[.slice a l.length cap] w fun e w' => e = .returned (.int .i64 (tot l)) ∧ Below w.heap.size w w' := by
  have hr' := hide hr
  clear hr
  have hll : l.length ≤ 1000000 := by unfold tot at hl; omega
  go_enter Try.func17, Try.ntmps17
  go_wp2
  go_loopw [3, 8] (fun s t wr => ∃ (k n : Nat), k ≤ l.length ∧ t = .int .i64 k ∧ s = .int .i64 n ∧ n ≤ 1000000 ∧ Hid (n = tot (l.take k)) ∧ Below w.heap.size w wr) (fun _ t _ => l.length - (intOf t).toNat)
  case atStart => exact ⟨0, 0, by omega, rfl, rfl, by omega, hide rfl, Below.refl _ _⟩
  case round =>
    obtain ⟨k, n, hk, rfl, rfl, hn1, hn, hb⟩ := hrel
    by_cases hlt : k < l.length
    · obtain ⟨x, hx⟩ : ∃ x, l[k]? = some x := ⟨l[k], List.getElem?_eq_getElem hlt⟩
      obtain ⟨b, o, rfl, h1, h2, c0, c1, c2, hrow, k1, d0, d1, z1, z2, _⟩ := unhide hr' k x hx
      have w0 : wr.cell? ⟨b, o + k * 3, none⟩ = some (.string x.k) := by rw [(bcell hb).1 _ _ h2]; exact c0
      have w1 : wr.cell? ⟨b, o + k * 3 + 1, none⟩ = some (.int .i64 x.d) := by rw [(bcell hb).1 _ _ h2]; exact c1
      have w2 : wr.cell? ⟨b, o + k * 3 + 2, none⟩ = some (.slice (A k).1 x.z.length (A k).2) := by rw [(bcell hb).1 _ _ h2]; exact c2
      have ht := tot_take hx
      have hle := tot_take_le l (k + 1)
      have hnn : n + (8 + x.z.length) ≤ 1000000 := by rw [unhide hn]; omega
      have hn2 : Hid (n + (8 + x.z.length) = tot (l.take (k + 1))) := hide (by rw [ht, ← unhide hn])
      have hb' := hide hb
      clear ht hle hx c0 c1 c2 hrow z1 z2 hb k1 hn
      go_wp2
      go_roundw
      case rel => exact ⟨k + 1, n + (8 + x.z.length), by omega, by go_num, by go_num, hnn, hn2, (unhide hb').alloc (unhide hb').size _⟩
      case measure => simp [intOf]; omega
    · have hke : k = l.length := by omega
      have hb' := hide hb
      clear hb
      go_wp2
      go_ret
      exact ⟨ret_int (by rw [unhide hn, hke, List.take_length]), unhide hb'⟩

theorem own_form {w : World} {B n m e : Nat} {v' : Value} {xs : List Value} (h : w.ownsRow B e m v' n xs) (hne : ¬ v' = .slice none 0 0) :
    ∃ g c, v' = .slice (some ⟨g, 0, none⟩) n c := by
  rcases h.2 with ⟨h1, _⟩ | ⟨g, c, cur, h1, h2, h3, h4, h5, _⟩
  · exact absurd h1 hne
  · exact ⟨g, c, h1⟩
theorem row_new (w : World) (N : Nat) : Row false 0 (w.heap.size + 1) (w.alloc (.cells ((be4 N).map u8).toArray 5)) (some ⟨w.heap.size, 0, none⟩) (be4 N) := by
  intro j z hz
  have hb := heap_alloc_new w (.cells ((be4 N).map u8).toArray 5)
  have hbd := be4_bd N z (List.mem_of_getElem? hz)
  refine ⟨w.heap.size, 0, rfl, Nat.zero_le _, by omega, ?_, hbd.1, hbd.2, fun h => by cases h⟩
  rw [cell_of_row _ _ _ _ _ _ hb, Nat.zero_add]
  simp [hz, u8]

set_option maxRecDepth 100000 in
set_option maxHeartbeats 800000 in
theorem as_any (B g n c N : Nat) (xs : List Value) (w : World) (hown : w.ownsRow B 5 1 (.slice (some ⟨g, 0, none⟩) n c) n xs) (hn : n ≤ 1000000) (hN : N ≤ 1000000) (hB : B ≤ w.heap.size) :
    Calls Try.prog 18 #[.slice (some ⟨g, 0, none⟩) n c, .int .i64 N] w fun e w' => ∃ g' c', e = .returned (.slice (some ⟨g', 0, none⟩) (n + 4) c') ∧ w'.ownsRow B 5 1 (.slice (some ⟨g', 0, none⟩) (n + 4) c') (n + 4) (xs ++ (be4 N).map u8) ∧ Only (fun b => b = g) w w' := by
  have hown' := hide hown
  clear hown
  have hgl : g < w.heap.size := ((unhide hown').lt g rfl).2
  have hrow := hide (row_new w N)
  have hA : Hid ((w.alloc (.cells ((be4 N).map u8).toArray 5)).ownsRow B 5 1 (.slice (some ⟨g, 0, none⟩) n c) n xs) := hide (own_kept (unhide hown') (fun k hk => by
    have e : g = k := Option.some.inj hk
    subst e
    exact Below.heap_alloc _ _ _ hgl))
  have hobj : (Obj.cells ((be4 N).map u8).toArray 5) = .cells #[.int .u8 ((N : Int) / 16777216), .int .u8 ((N : Int) / 65536), .int .u8 ((N : Int) / 256 % 256), .int .u8 ((N : Int) % 256)] 5 := by
    have e0 : ((N / 16777216 % 256 : Nat) : Int) = (N : Int) / 16777216 := by omega
    have e1 : ((N / 65536 % 256 : Nat) : Int) = (N : Int) / 65536 := by omega
    have e2 : ((N / 256 % 256 : Nat) : Int) = (N : Int) / 256 % 256 := by omega
    have e3 : ((N % 256 : Nat) : Int) = (N : Int) % 256 := by omega
    unfold be4
    rw [e0, e1, e2, e3]; rfl
  rw [hobj] at hrow hA
  clear hobj
  go_enter Try.func18, Try.ntmps18
  go_wp2_with (at_builtin; refine wpList_bytes _ rfl _ _ rfl B n (w.heap.size + 1) (.slice (some ⟨g, 0, none⟩) n c) xs rfl (unhide hA) ⟨w.heap.size, 0, none⟩ 4 4 (be4 N) rfl rfl (unhide hrow) (by omega) (by simp; omega) ?_)
  intro v' w' hown2 hgrow hiff
  obtain ⟨g', c', rfl⟩ := own_form hown2 hiff
  have ho : Hid (Only (fun b => b = g) w w') := hide (((Only.refl (S := fun b => b = g) (w := w)).alloc _).grown hgrow (fun k hk _ => (Option.some.inj hk).symm))
  have hown2' := hide hown2
  clear hown2 hgrow hiff
  go_wp2
  go_ret
  exact ⟨_, _, rfl, unhide hown2', unhide ho⟩
end Go.Proofs.Ytfdbnlmfnhhcbaa
