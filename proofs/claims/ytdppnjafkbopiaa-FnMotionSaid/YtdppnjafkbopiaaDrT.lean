/-
  Contract of the model's draw of a block: it answers with a list of at most seventeen numbers; nothing that was there is written.
-/
import Derived.Test.YtdppnjafkbopiaaDrC
import Derived.Test.YtdppnjafkbopiaaBuP
import Derived.Test.YtdppnjafkbopiaaTnP
namespace Go.Proofs.Ytdppnjafkbopiaa
open Go.RowKit
set_option linter.unusedVariables false
set_option linter.unusedSimpArgs false

theorem own_cap {w : World} {B g n cap m : Nat} {e : TypeId} {xs : List Value} (h : w.ownsRow B e m (.slice (some ⟨g, 0, none⟩) n cap) n xs) : n ≤ cap := by
  obtain ⟨h1, h2⟩ := h
  rcases h2 with h2 | ⟨g', cap', cur, hv, hB, hh, hc, hm, hs, ht⟩
  · cases h2.1
  · injection hv with e1 e2 e3
    subst e3
    exact hc
theorem ins_take {w : World} {a : Option Addr} {l : List Int} (h : Ins w a l) (k : Nat) : Ins w a (l.take k) := by
  intro j x hx
  rw [List.getElem?_take] at hx
  split at hx
  · exact h j x hx
  · cases hx
/-- the state of the draw of a list: the cursor, the list -/
structure IS (w : World) (B g : Nat) (a : Option Addr) (len cap : Nat) (wr : World) (gb n c : Nat) (L : List Int) : Prop where
  ds : DS w B g a len cap wr
  ow : OwnI wr w.heap.size gb n c L
theorem IS.step {w wr w1 : World} {B g : Nat} {a : Option Addr} {len cap gb n c : Nat} {L : List Int} (h : IS w B g a len cap wr gb n c L) (hB : B ≤ g) (hg : g < w.heap.size) (hc : CurAt w1 g a len cap) (hgr : wr.grownBy w1 (some g)) : IS w B g a len cap w1 gb n c L :=
  ⟨h.ds.step hB hc hgr, own_kept h.ow hgr (by have := own_ge h.ow; omega)⟩
theorem IS.later {w wr w1 : World} {B g : Nat} {a : Option Addr} {len cap gb n c : Nat} {L : List Int} (h : IS w B g a len cap wr gb n c L) (hB : B ≤ g) (hb : Below wr.heap.size wr w1) : IS w B g a len cap w1 gb n c L :=
  ⟨h.ds.later hB hb, ownsRow_below h.ow hb⟩
theorem DS.app {w wr w1 : World} {B g : Nat} {a : Option Addr} {len cap : Nat} (h : DS w B g a len cap wr) (hB : B ≤ w.heap.size) (hg : g < w.heap.size) (hb : Below w.heap.size wr w1) : DS w B g a len cap w1 := by
  refine ⟨h.cur.other (hb.block g hg), ?_, ?_⟩
  · intro j hj
    obtain ⟨b, o, z, e, hb2, hc, h0, h1⟩ := h.rd j hj
    exact ⟨b, o, z, e, hb2, (hb.cell (p := ⟨b, o + j, none⟩) (by show b < _; omega)).trans hc, h0, h1⟩
  · exact ⟨hb.os.trans h.gr.os, hb.tape.trans h.gr.tape, hb.output.trans h.gr.output, Nat.le_trans h.gr.size hb.size, fun j hj hn => (hb.block j hj).trans (h.gr.block j hj hn)⟩
theorem IS.app {w wr w1 : World} {B g : Nat} {a : Option Addr} {len cap gb n c gb' n' c' : Nat} {L L' : List Int} (h : IS w B g a len cap wr gb n c L) (hB : B ≤ w.heap.size) (hg : g < w.heap.size) (hb : Below w.heap.size wr w1) (ho : OwnI w1 w.heap.size gb' n' c' L') : IS w B g a len cap w1 gb' n' c' L' :=
  ⟨h.ds.app hB hg hb, ho⟩
theorem IS.put {w wr : World} {B g : Nat} {a : Option Addr} {len cap gb n c : Nat} {L : List Int} (h : IS w B g a len cap wr gb n c L) (hB : B ≤ w.heap.size) (hg : g < w.heap.size) (k : Nat) (v : Int) : IS w B g a len cap (wr.setCell ⟨gb, k, none⟩ (.int .i64 v)) gb n c (L.set k v) :=
  h.app hB hg ((Below.refl _ _).setCell (p := ⟨gb, k, none⟩) (own_ge h.ow) _) (ownI_put k v h.ow)
theorem IS.low {w0 w wr : World} {B g : Nat} {a : Option Addr} {len cap gb n c : Nat} {L : List Int} (h : IS w B g a len cap wr gb n c L) (hb : Below w0.heap.size w0 w) (hg : w0.heap.size ≤ g) : Below w0.heap.size w0 wr := below_grown hb h.ds.gr hg
theorem IS.size {w wr : World} {B g : Nat} {a : Option Addr} {len cap gb n c : Nat} {L : List Int} (h : IS w B g a len cap wr gb n c L) : w.heap.size ≤ wr.heap.size := h.ds.gr.size
set_option maxHeartbeats 800000 in
theorem from_any (B g : Nat) (a : Option Addr) (len cap : Nat) (lo hi : Int) (w : World) (hB : B ≤ g) (hl : len ≤ 9223372036854775807) (hc : CurAt w g a len cap) (hr : RdB w B a len) (h1 : -1000000 ≤ lo) (h2 : lo ≤ hi) (h3 : hi ≤ 1000000) :
    Calls Try.prog 20 #[.pointer (some ⟨g, 0, none⟩), .int .i64 lo, .int .i64 hi] w fun e w' => ∃ x, e = .returned (.int .i64 x) ∧ lo ≤ x ∧ x ≤ hi ∧ CurAt w' g a len cap ∧ w.grownBy w' (some g) := by
  have hc' := hide hc
  have hr' := hide hr
  clear hc hr
  go_enter Try.func20, Try.ntmps20
  go_wp2_with fail
  refine (below_any B g a len cap (hi - lo + 1) _ hB hl (unhide hc') (unhide hr') (by omega)).mono ?_
  rintro e w1 ⟨x, rfl, x0, x1, k1, g1⟩
  have k1' := hide k1
  have g1' := hide g1
  clear k1 g1
  go_wp2
  go_ret
  exact ⟨_, rfl, by omega, by omega, unhide k1', unhide g1'⟩
theorem lit_at4 {w : World} {T : TypeId} {a0 a1 a2 a3 : Int} (k : Nat) (hk : k < 4) : ∃ v : Int, (w.alloc (.cells #[.int .i64 a0, .int .i64 a1, .int .i64 a2, .int .i64 a3] T)).cell? ⟨w.heap.size, k, none⟩ = some (.int .i64 v) := by
  have hc : k = 0 ∨ k = 1 ∨ k = 2 ∨ k = 3 := by omega
  rcases hc with rfl | rfl | rfl | rfl
  · exact ⟨a0, by simp [go_sem]⟩
  · exact ⟨a1, by simp [go_sem]⟩
  · exact ⟨a2, by simp [go_sem]⟩
  · exact ⟨a3, by simp [go_sem]⟩
theorem lit_at3 {w : World} {T : TypeId} {a0 a1 a2 : Int} (k : Nat) (hk : k < 3) : ∃ v : Int, (w.alloc (.cells #[.int .i64 a0, .int .i64 a1, .int .i64 a2] T)).cell? ⟨w.heap.size, k, none⟩ = some (.int .i64 v) := by
  have hc : k = 0 ∨ k = 1 ∨ k = 2 := by omega
  rcases hc with rfl | rfl | rfl
  · exact ⟨a0, by simp [go_sem]⟩
  · exact ⟨a1, by simp [go_sem]⟩
  · exact ⟨a2, by simp [go_sem]⟩
/-- an answer that is a list that can be read -/
def AnR (w : World) (M : Nat) (e : Ending) (w' : World) : Prop := ∃ A cap L, e = .returned (.slice A L.length cap) ∧ L.length ≤ M ∧ Ins w' A L ∧ Below w.heap.size w w'
theorem AnR.mk {w w' : World} {M n c : Nat} {A : Option Addr} {L : List Int} (hL : L.length = n) (hn : n ≤ M) (hI : Ins w' A L) (hb : Below w.heap.size w w') : AnR w M (.returned (.slice A n c)) w' := by
  subst hL; exact ⟨A, c, L, rfl, hn, hI, hb⟩

end Go.Proofs.Ytdppnjafkbopiaa
