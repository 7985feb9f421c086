/-
  Contracts of the law's functions that weigh a list of texts, and look for marks in a list of assets; nothing that was there is written.
  The lone contracts of FnExactPack's law as they serve beside leavers: nothing is said of tape and draws; emptied blocks stay emptied.
  A copy of the bodies is as digestsOf wants them; what is owned is kept where other blocks are written.
  impl.Pack beside leavers: the law.
-/
import Derived.Test.YtpdnceeniokemaaZMkA
import Derived.Test.YtpdnceeniokemaaZSt
import Derived.Test.YtpdnceeniokemaaZCopyL
namespace Go.Proofs.Ytpdnceeniokemaa
open Go.RowKit
set_option linter.unusedVariables false
set_option linter.unusedSimpArgs false

theorem keep3 {w w0 w1 : World} {a b c : Addr} {v u x : Value} (h : w0.cell? a = some v ∧ w0.cell? b = some u ∧ w0.cell? c = some x ∧ Below w.heap.size w w0) (hb : Below w0.heap.size w0 w1) : w1.cell? a = some v ∧ w1.cell? b = some u ∧ w1.cell? c = some x ∧ Below w.heap.size w w1 := ⟨cell_later hb h.1, cell_later hb h.2.1, cell_later hb h.2.2.1, laterB h.2.2.2 hb⟩
theorem keep3d {w w0 : World} {a b c : Addr} {v u x : Value} (h : w0.cell? a = some v ∧ w0.cell? b = some u ∧ w0.cell? c = some x ∧ Below w.heap.size w w0) : w0.drew.cell? a = some v ∧ w0.drew.cell? b = some u ∧ w0.drew.cell? c = some x ∧ Below w.heap.size w w0.drew := ⟨h.1, h.2.1, h.2.2.1, h.2.2.2.drew⟩
set_option maxHeartbeats 1600000 in
theorem heldA_any (B g n cap : Nat) (q : Int) (xs : List Value) (w : World) (hn : n ≤ 10000000) (q0 : 1 ≤ q) (q1 : q ≤ 100000000) (h : w.ownsRow B 79 3 (.slice (some ⟨g, 0, none⟩) n cap) n xs) (hm : Mks q (n * 3) xs) :
    Calls Try.prog 37 #[.slice (some ⟨g, 0, none⟩) n cap, .int .i64 q] w fun e w' => e = .returned (.int .i64 (q + n * 3)) ∧ Below w.heap.size w w' := by
  have h' := hide h
  have hm' := hide hm
  clear h hm
  go_enter Try.func37, Try.ntmps37
  go_wp2
  go_loopw [1, 5] (fun s t wr => ∃ k : Nat, k ≤ n ∧ t = .int .i64 k ∧ s = .int .i64 (q + k * 3) ∧ Hid (Below w.heap.size w wr)) (fun _ t _ => n - (intOf t).toNat)
  case atStart => exact ⟨0, by omega, rfl, by simp, hide (Below.refl _ _)⟩
  case round =>
    obtain ⟨k, hk, rfl, rfl, hb⟩ := hrel
    by_cases hlt : k < n
    · have hy := ownsRow_below (unhide h') (unhide hb)
      obtain ⟨v0, c0, f0, hv0, hl0⟩ := own_at (i := k * 3) hy (by omega)
      obtain ⟨v1, c1, f1, hv1, hl1⟩ := own_at (i := k * 3 + 1) hy (by omega)
      obtain ⟨v2, c2, f2, hv2, hl2⟩ := own_at (i := k * 3 + 2) hy (by omega)
      rw [unhide hm' (k * 3) (by omega), mkv0] at hv0
      rw [unhide hm' (k * 3 + 1) (by omega), mkv1] at hv1
      rw [unhide hm' (k * 3 + 2) (by omega), mkv2] at hv2
      cases hv0
      cases hv1
      cases hv2
      have hall := hide (show wr.cell? ⟨g, k * 3, none⟩ = some (.string (mkT (q + k * 3))) ∧ wr.cell? ⟨g, k * 3 + 1, none⟩ = some (.int .i64 (q + k * 3 + 1)) ∧ wr.cell? ⟨g, k * 3 + 2, none⟩ = some (.int .i64 (q + k * 3 + 2)) ∧ Below w.heap.size w wr from ⟨c0, c1, c2, unhide hb⟩)
      have hmt := hide (fun w => mtext_any (q + k * 3) w (by omega) (by omega))
      have e2 : q + (k : Int) * 3 + 1 + 1 = q + k * 3 + 2 := by omega
      have s1 : (q + (k : Int) * 3 + 1 != q + k * 3 + 1) = false := by simp
      have s2 : (q + (k : Int) * 3 + 2 != q + k * 3 + 2) = false := by simp
      generalize mkT (q + k * 3) = M at *
      clear hy f0 hl0 hb f1 hl1 f2 hl2 c1 c2
      go_wp2_with fail
      go_region_held3 (fun w' => w'.cell? ⟨g, k * 3, none⟩ = some (.string M) ∧ w'.cell? ⟨g, k * 3 + 1, none⟩ = some (.int .i64 (q + k * 3 + 1)) ∧ w'.cell? ⟨g, k * 3 + 2, none⟩ = some (.int .i64 (q + k * 3 + 2)) ∧ Below w.heap.size w w')
        (first | (refine keep3 ?_ hb; assumption) | (exact keep3d (unhide hall)))
        ((go_at_call 70; refine (unhide hmt _).mono ?_; rintro e w1 ⟨rfl, hb⟩))
      rename_i hH
      obtain ⟨_, d1, d2, hB⟩ := hH
      have hB := hide hB
      go_wp2
      go_roundw
      case rel => exact ⟨k + 1, by omega, by go_num, by go_num, hB⟩
      case measure => simp [intOf]; omega
    · have hke : k = n := by omega
      go_wp2
      go_ret
      exact ⟨ret_int (by omega), unhide hb⟩

set_option maxHeartbeats 1600000 in
theorem szS_any (a : Option Addr) (cap : Nat) (l : List ByteArray) (w : World) (hl : l.length ≤ maxLen) (hr : Sts w a l) (hsz : ∀ x ∈ l, x.size ≤ maxLen) (N : Int) (N0 : 0 ≤ N) (N1 : N ≤ 1048576) :
    Calls Try.prog 26 #[.slice a l.length cap, .int .i64 N] w fun e w' => ∃ r : Int, e = .returned (.int .i64 r) ∧ (r = -1 ∨ (0 ≤ r ∧ r ≤ 1048576 ∧ l.length ≤ 1048576 ∧ ∀ x ∈ l, x.size ≤ 1048576)) ∧ w' = w := by
  have hr' := hide hr
  have hsz' := hide hsz
  clear hr hsz
  unfold maxLen at hl
  by_cases h : N - l.length < 0
  · go_enter Try.func26, Try.ntmps26
    go_wp2
    go_ret
    exact ⟨_, rfl, by omega, rfl⟩
  go_enter Try.func26, Try.ntmps26
  go_wp2
  go_loop [1, 5] (fun n t => ∃ (k : Nat) (r : Int), k ≤ l.length ∧ t = .int .i64 k ∧ n = .int .i64 r ∧ 0 ≤ r ∧ r ≤ 1048576 ∧ Hid (∀ j x, j < k → l[j]? = some x → x.size ≤ 1048576)) (fun _ t => l.length - (intOf t).toNat)
  case atStart => exact ⟨0, _, by omega, rfl, rfl, by omega, by omega, hide (fun j x h => by omega)⟩
  case round =>
    obtain ⟨k, r, hk, rfl, rfl, r0, r1, hok⟩ := hrel
    by_cases hlt : k < l.length
    · obtain ⟨x, hx⟩ : ∃ x, l[k]? = some x := ⟨l[k], List.getElem?_eq_getElem hlt⟩
      obtain ⟨b, o, rfl, i1, c0⟩ := unhide hr' k x hx
      have hxs := unhide hsz' x (List.mem_of_getElem? hx)
      unfold maxLen at hxs
      have hnx := hide (show x.size ≤ 1048576 → ∀ j y, j < k + 1 → l[j]? = some y → y.size ≤ 1048576 from fun h j z hj hz => by
        rcases Nat.lt_or_ge j k with h1 | h1
        · exact unhide hok j z h1 hz
        · have : j = k := by omega
          subst this
          rw [hx] at hz; injection hz with hz; subst hz; exact h)
      have hx' := hide hx
      clear hx hok
      by_cases hneg : r - x.size < 0
      · have gg : decide (r - (x.size : Int) < 0) = true := decide_eq_true hneg
        go_wp2
        go_ret
        exact ⟨_, rfl, Or.inl rfl, rfl⟩
      · have gg : decide (r - (x.size : Int) < 0) = false := decide_eq_false hneg
        have hn := hide (unhide hnx (by omega))
        clear hnx
        go_wp2
        go_round
        case rel => exact ⟨k + 1, r - x.size, by omega, by go_num, by go_num, by omega, by omega, hn⟩
        case measure => simp [intOf]; omega
    · have hfin := hide (show ∀ x ∈ l, x.size ≤ 1048576 from fun x hx => by
        obtain ⟨j, hj⟩ := List.getElem?_of_mem hx
        exact unhide hok j x (by have := (List.getElem?_eq_some_iff.1 hj).1; omega) hj)
      go_wp2
      go_ret
      exact ⟨_, rfl, Or.inr ⟨r0, r1, by omega, unhide hfin⟩, rfl⟩

end Go.Proofs.Ytpdnceeniokemaa

set_option linter.unusedVariables false
set_option linter.unusedSimpArgs false
namespace Go.Proofs.Ytpdnceeniokemaa
open Go Go.Conc Go.RowKit
open Go.Proofs.Ytpdnceeniokemaa.Bb (Tks TO TW Rng tot)
open Go.Proofs.Ytpdnceeniokemaa.Wk (El BodiesV Bel)
open Go.Proofs.Ytpdnceeniokemaa.Br (Pz rt)
theorem bel_rt {w w' : World} {T : Nat → Question → Nat} {d : Nat} (h : Below w.heap.size (rt T d w) w') : Bel w.heap.size w w' := ⟨h.os, h.output, h.size, h.block⟩
theorem Wk.Bel.refl (w : World) : Bel w.heap.size w w := ⟨rfl, rfl, Nat.le_refl _, fun _ _ => rfl⟩
theorem Wk.Bel.kp {w w' : World} (h : Bel w.heap.size w w') : KP w w' := fun b ⟨e, he⟩ => ⟨e, (h.block b (Array.getElem?_eq_some_iff.1 he).1).trans he⟩
theorem Wk.Bel.trans {N : Nat} {a b c : World} (h : Bel N a b) (k : Bel N b c) : Bel N a c := ⟨k.os.trans h.os, k.output.trans h.output, Nat.le_trans h.size k.size, fun i hi => (k.block i hi).trans (h.block i hi)⟩
theorem Wk.Bel.mono {N M : Nat} {a b : World} (h : Bel N a b) (hM : M ≤ N) : Bel M a b := ⟨h.os, h.output, h.size, fun k hk => h.block k (by omega)⟩
theorem Wk.Bel.rtt {N : Nat} {a b : World} (h : Bel N a b) (T : Nat → Question → Nat) (d : Nat) : Bel N a (rt T d b) := ⟨h.os, h.output, h.size, h.block⟩
/-- all but the block g stands -/
structure Gro (g : Nat) (a b : World) : Prop where
  os : b.os = a.os
  output : b.output = a.output
  size : a.heap.size ≤ b.heap.size
  block : ∀ k, k < a.heap.size → k ≠ g → b.heap[k]? = a.heap[k]?
theorem gro_rt {g : Nat} {w w' : World} {T : Nat → Question → Nat} {d : Nat} (h : (rt T d w).grownBy w' (some g)) : Gro g w w' := ⟨h.os, h.output, h.size, fun k hk hn => h.block k hk (fun e => hn (Option.some.inj e))⟩
section
variable (w : World)
def R26 (l : List ByteArray) (v : Value) (w' : World) : Prop := ∃ r : Int, v = .int .i64 r ∧ (r = -1 ∨ (0 ≤ r ∧ r ≤ 1048576 ∧ l.length ≤ 1048576 ∧ ∀ x ∈ l, x.size ≤ 1048576)) ∧ Bel w.heap.size w w'
theorem szS_R (a : Option Addr) (cap : Nat) (l : List ByteArray) (hl : l.length ≤ maxLen) (hr : Sts w a l) (hsz : ∀ x ∈ l, x.size ≤ maxLen) (N : Int) (N0 : 0 ≤ N) (N1 : N ≤ 1048576) (T : Nat → Question → Nat) (d : Nat) :
    Calls Try.prog 26 #[.slice a l.length cap, .int .i64 N] (rt T d w) fun e w' => ∃ v, e = .returned v ∧ R26 w l v w' :=
  (szS_any a cap l (rt T d w) hl hr hsz N N0 N1).mono fun e w' ⟨r, h1, h2, h3⟩ => ⟨_, h1, r, rfl, h2, by rw [h3]; exact (Wk.Bel.refl w).rtt T d⟩
def R27 (ts : List (List Int)) (N : Int) (v : Value) (w' : World) : Prop := ∃ r : Int, v = .int .i64 r ∧ (r = -1 ∨ (0 ≤ r ∧ ts.length + tot ts ≤ N)) ∧ Bel w.heap.size w w'
theorem szbb_R (a : Option Addr) (cap : Nat) (ts : List (List Int)) (hl : ts.length ≤ maxLen) (hk : Tks w a ts) (N : Int) (N0 : 0 ≤ N) (N1 : N ≤ 1048576) (T : Nat → Question → Nat) (d : Nat) :
    Calls Try.prog 27 #[.slice a ts.length cap, .int .i64 N] (rt T d w) fun e w' => ∃ v, e = .returned v ∧ R27 w ts N v w' :=
  (Bb.szbb_any a cap ts (rt T d w) hl hk N N0 N1).mono fun e w' ⟨r, h1, h2, h3⟩ => ⟨_, h1, r, rfl, h2, by rw [h3]; exact (Wk.Bel.refl w).rtt T d⟩
def R29 (zs : List ByteArray) (v : Value) (w' : World) : Prop := ∃ B, v = .slice (some ⟨B, 0, none⟩) zs.length zs.length ∧ w.heap.size ≤ B ∧ OwnS w' w.heap.size B zs.length zs.length zs ∧ Bel w.heap.size w w'
theorem tos_R (a : Option Addr) (cap : Nat) (zs : List ByteArray) (hl : zs.length ≤ 1048576) (hr : Sts w a zs) (T : Nat → Question → Nat) (d : Nat) :
    Calls Try.prog 29 #[.slice a zs.length cap] (rt T d w) fun e w' => ∃ v, e = .returned v ∧ R29 w zs v w' :=
  (tosS_any a cap zs (rt T d w) hl hr).mono fun e w' ⟨B, h1, h2, h3, h4⟩ => ⟨_, h1, B, rfl, h2, h3, bel_rt h4⟩
def R30 (ts : List (List Int)) (v : Value) (w' : World) : Prop := ∃ B, v = .slice (some ⟨B, 0, none⟩) ts.length ts.length ∧ TO w.heap.size w'.heap.size w' B ts ts.length ∧ Bel w.heap.size w w'
theorem tobb_R (a : Option Addr) (cap : Nat) (ts : List (List Int)) (hl : ts.length ≤ 1048576) (hm : ∀ t ∈ ts, t.length ≤ 1048576) (hk : Tks w a ts) (T : Nat → Question → Nat) (d : Nat) :
    Calls Try.prog 30 #[.slice a ts.length cap] (rt T d w) fun e w' => ∃ v, e = .returned v ∧ R30 w ts v w' :=
  (Bb.tobb_any a cap ts (rt T d w) hl hm hk).mono fun e w' ⟨B, h1, h2, h3⟩ => ⟨_, h1, B, rfl, h2, bel_rt h3⟩
theorem spack_R (b d : Option Addr) (cb cd : Nat) (ns : List ByteArray) (ts : List (List Int)) (hn : ns.length ≤ 1048576) (ht : ts.length ≤ 1048576) (hz : ∀ n ∈ ns, n.size ≤ maxLen) (hy : ∀ t ∈ ts, Byt t) (hs : Sts w b ns) (hb : Tks w d ts) (T : Nat → Question → Nat) (dd : Nat) :
    Calls Try.prog 28 #[.slice b ns.length cb, .slice d ts.length cd] (rt T dd w) fun e w' => ∃ v, e = .returned v ∧ RPk w ns ts v w' :=
  (spack_any b d cb cd ns ts (rt T dd w) hn ht hz hy hs hb).mono fun e w' ⟨L, ok, g, c, h1, h2, h3, h4⟩ => ⟨_, h1, L, ok, g, c, rfl, h2, bel_rt h3, h4⟩
def RTr (v : Value) (w' : World) : Prop := v = .bool true ∧ Bel w.heap.size w w'
theorem eqs_R (a b : Option Addr) (ca cb : Nat) (l : List ByteArray) (hl : l.length ≤ 1048576) (ha : Sts w a l) (hb : Sts w b l) (T : Nat → Question → Nat) (d : Nat) :
    Calls Try.prog 32 #[.slice a l.length ca, .slice b l.length cb] (rt T d w) fun e w' => ∃ v, e = .returned v ∧ RTr w v w' :=
  (eqS_any a b ca cb l (rt T d w) hl ha hb).mono fun e w' ⟨h1, h2⟩ => ⟨_, h1, rfl, bel_rt h2⟩
theorem eqbb_R (a b : Option Addr) (ca cb : Nat) (ts : List (List Int)) (hl : ts.length ≤ 1048576) (hm : ∀ t ∈ ts, t.length ≤ 1048576) (ha : Tks w a ts) (hb : Tks w b ts) (T : Nat → Question → Nat) (d : Nat) :
    Calls Try.prog 33 #[.slice a ts.length ca, .slice b ts.length cb] (rt T d w) fun e w' => ∃ v, e = .returned v ∧ RTr w v w' :=
  (Bb.eqbb_any a b ca cb ts (rt T d w) hl hm ha hb).mono fun e w' ⟨h1, h2⟩ => ⟨_, h1, rfl, bel_rt h2⟩
def R35 (lo hi : Nat) (v : Value) (w' : World) : Prop := ∃ r : Int, v = .int .i64 r ∧ 0 ≤ r ∧ w'.os = w.os ∧ w'.output = w.output ∧ w.heap.size ≤ w'.heap.size ∧ (∀ k, k < w.heap.size → (k < lo ∨ hi ≤ k) → w'.heap[k]? = w.heap[k]?) ∧ KP w w'
theorem markbb_R (lo hi B cap : Nat) (ts : List (List Int)) (hl : ts.length + tot ts ≤ 1048576) (q9 : Int) (h0 : 1 ≤ q9) (h9 : q9 ≤ 4000000) (h : TW lo hi w B ts) (T : Nat → Question → Nat) (d : Nat) :
    Calls Try.prog 35 #[.slice (some ⟨B, 0, none⟩) ts.length cap, .int .i64 q9] (rt T d w) fun e w' => ∃ v, e = .returned v ∧ R35 w lo hi v w' :=
  (Bb.markbb_any lo hi B cap ts (rt T d w) hl q9 h0 h9 ⟨h.blk⟩).mono fun e w' ⟨r, h1, h2, h3⟩ => ⟨_, h1, r, rfl, h2, h3.os, h3.output, h3.size, h3.block, fun b ⟨e, he⟩ => ⟨e, h3.empt b e he⟩⟩
theorem row_pz0 {w : World} {B e m g n c : Nat} {xs : List Value} (h : w.ownsRow B e m (.slice (some ⟨g, 0, none⟩) n c) n xs) (hp : Pz w g) : c * m = 0 := by
  obtain ⟨y, hy⟩ := hp
  rcases h.2 with ⟨hv, _⟩ | ⟨g', cap', cur, hv, hB, hh, hc, hm, hcs, htk⟩
  · cases hv
  · injection hv with e1 e2 e3
    injection e1 with e1
    injection e1 with e1
    subst e1 e3
    rw [hy] at hh
    injection hh with hh
    injection hh with hh
    rw [← hh] at hcs
    exact hcs.symm
theorem row_pz1 {w : World} {B e m g n c : Nat} {xs : List Value} (h : w.ownsRow B e m (.slice (some ⟨g, 0, none⟩) n c) n xs) (hc0 : c * m = 0) : Pz w g := by
  rcases h.2 with ⟨hv, _⟩ | ⟨g', cap', cur, hv, hB, hh, hc, hm, hcs, htk⟩
  · cases hv
  · injection hv with e1 e2 e3
    injection e1 with e1
    injection e1 with e1
    subst e1 e3
    have : cur = #[] := by
      have : cur.size = 0 := by rw [hcs, hc0]
      simpa using this
    rw [this] at hh
    exact ⟨_, hh⟩
theorem kp_gro {w w' : World} {B e m g n c : Nat} {xs ys : List Value} (hg : Gro g w w') (h : w.ownsRow B e m (.slice (some ⟨g, 0, none⟩) n c) n xs) (h' : w'.ownsRow B e m (.slice (some ⟨g, 0, none⟩) n c) n ys) : KP w w' := fun b hb => by
  by_cases hbg : b = g
  · subst hbg
    exact row_pz1 h' (row_pz0 h hb)
  · obtain ⟨y, hy⟩ := hb
    exact ⟨y, (hg.block b (Array.getElem?_eq_some_iff.1 hy).1 hbg).trans hy⟩
theorem eqks_R (a b : Option Addr) (ca cb : Nat) (l : List Kl) (hl : l.length ≤ 1048576) (ha : Kls w a l) (hb : Kls w b l) (T : Nat → Question → Nat) (d : Nat) :
    Calls Try.prog 25 #[.slice a l.length ca, .slice b l.length cb] (rt T d w) fun e w' => ∃ v, e = .returned v ∧ RTr w v w' :=
  (eqks_any a b ca cb l (rt T d w) hl ha hb).mono fun e w' ⟨h1, h2⟩ => ⟨_, h1, rfl, bel_rt h2⟩
def R34 (B g n cap : Nat) (q : Int) (v : Value) (w' : World) : Prop := v = .int .i64 (q + n) ∧ (∃ ys, w'.ownsRow B 9 1 (.slice (some ⟨g, 0, none⟩) n cap) n ys) ∧ Gro g w w' ∧ KP w w'
theorem markS_R (B g n cap : Nat) (q : Int) (xs : List Value) (hn : n ≤ 10000000) (q0 : 1 ≤ q) (q1 : q ≤ 100000000) (h : w.ownsRow B 9 1 (.slice (some ⟨g, 0, none⟩) n cap) n xs) (T : Nat → Question → Nat) (d : Nat) :
    Calls Try.prog 34 #[.slice (some ⟨g, 0, none⟩) n cap, .int .i64 q] (rt T d w) fun e w' => ∃ v, e = .returned v ∧ R34 w B g n cap q v w' :=
  (markS_any B g n cap q xs (rt T d w) hn q0 q1 h).mono fun e w' ⟨h1, ⟨ys, h2, _⟩, h3⟩ => ⟨_, h1, rfl, ⟨ys, h2⟩, gro_rt h3, kp_gro (gro_rt h3) h h2⟩
def R36 (B g n cap : Nat) (q : Int) (v : Value) (w' : World) : Prop := v = .int .i64 (q + n * 3) ∧ (∃ ys, w'.ownsRow B 79 3 (.slice (some ⟨g, 0, none⟩) n cap) n ys ∧ Mks q (n * 3) ys) ∧ Gro g w w' ∧ KP w w'
theorem markA_R (B g n cap : Nat) (q : Int) (xs : List Value) (hn : n ≤ 10000000) (q0 : 1 ≤ q) (q1 : q ≤ 100000000) (h : w.ownsRow B 79 3 (.slice (some ⟨g, 0, none⟩) n cap) n xs) (T : Nat → Question → Nat) (d : Nat) :
    Calls Try.prog 36 #[.slice (some ⟨g, 0, none⟩) n cap, .int .i64 q] (rt T d w) fun e w' => ∃ v, e = .returned v ∧ R36 w B g n cap q v w' :=
  (markA_any B g n cap q xs (rt T d w) hn q0 q1 h).mono fun e w' ⟨h1, ⟨ys, h2, h4⟩, h3⟩ => ⟨_, h1, rfl, ⟨ys, h2, h4⟩, gro_rt h3, kp_gro (gro_rt h3) h h2⟩
def R37 (n : Nat) (q : Int) (v : Value) (w' : World) : Prop := v = .int .i64 (q + n * 3) ∧ Bel w.heap.size w w'
theorem heldA_R (B g n cap : Nat) (q : Int) (xs : List Value) (hn : n ≤ 10000000) (q0 : 1 ≤ q) (q1 : q ≤ 100000000) (h : w.ownsRow B 79 3 (.slice (some ⟨g, 0, none⟩) n cap) n xs) (hm : Mks q (n * 3) xs) (T : Nat → Question → Nat) (d : Nat) :
    Calls Try.prog 37 #[.slice (some ⟨g, 0, none⟩) n cap, .int .i64 q] (rt T d w) fun e w' => ∃ v, e = .returned v ∧ R37 w n q v w' :=
  (heldA_any B g n cap q xs (rt T d w) hn q0 q1 h hm).mono fun e w' ⟨h1, h2⟩ => ⟨_, h1, rfl, bel_rt h2⟩
end
end Go.Proofs.Ytpdnceeniokemaa

set_option linter.unusedVariables false
set_option linter.unusedSimpArgs false
namespace Go.Proofs.Ytpdnceeniokemaa
open Go Go.Conc Go.RowKit
open Go.Proofs.Ytpdnceeniokemaa.Bb (Tks TO TW Rng tot)
open Go.Proofs.Ytpdnceeniokemaa.Wk (El BodiesV Bel)
theorem els_of (P : Nat → El → Prop) : ∀ (n : Nat), (∀ j, j < n → ∃ e, P j e) → ∃ zs : List El, zs.length = n ∧ ∀ j e, zs[j]? = some e → P j e := by
  intro n
  induction n with
  | zero => intro _; exact ⟨[], rfl, fun j e h => by simp at h⟩
  | succ n ih =>
    intro h
    obtain ⟨zs, hl, hz⟩ := ih fun j hj => h j (by omega)
    obtain ⟨e, he⟩ := h n (by omega)
    refine ⟨zs ++ [e], by simp [hl], fun j e' hj => ?_⟩
    rcases Nat.lt_or_ge j zs.length with hlt | hge
    · rw [List.getElem?_append_left hlt] at hj
      exact hz j e' hj
    · rw [List.getElem?_append_right hge] at hj
      have hj0 : j - zs.length = 0 := by
        have := (List.getElem?_eq_some_iff.1 hj).1
        simp at this
        omega
      rw [hj0] at hj
      simp at hj
      subst hj
      have : j = n := by omega
      rw [this]
      exact he
/-- a copy, as the workers read it -/
theorem to_bodies {lo hi : Nat} {w : World} {B : Nat} {ts : List (List Int)} (h : TO lo hi w B ts ts.length) (hy : ∀ t ∈ ts, Byt t) (hm : ∀ t ∈ ts, t.length ≤ 1048576) : ∃ zs : List El, zs.map (·.l) = ts ∧ BodiesV w zs (some ⟨B, 0, none⟩) := by
  obtain ⟨cur, h1, h2, h3⟩ := h.blk
  obtain ⟨zs, hl, hz⟩ := els_of (fun j e => ts[j]? = some e.l ∧ e.cap = e.l.length ∧ cur[j]? = some e.v ∧ Bys w e.p e.l) ts.length fun j hj => by
    obtain ⟨g, g1, g2, g3⟩ := h3 j ts[j] (List.getElem?_eq_getElem hj) hj
    exact ⟨⟨some ⟨g, 0, none⟩, ts[j].length, ts[j]⟩, List.getElem?_eq_getElem hj, rfl, g2, bys_own g3⟩
  have hmap : zs.map (·.l) = ts := by
    apply List.ext_getElem?
    intro j
    rw [List.getElem?_map]
    rcases Nat.lt_or_ge j zs.length with hlt | hge
    · rw [List.getElem?_eq_getElem hlt]
      exact ((hz j _ (List.getElem?_eq_getElem hlt)).1).symm
    · rw [List.getElem?_eq_none hge, List.getElem?_eq_none (by omega)]
      rfl
  refine ⟨zs, hmap, fun j e he => ?_, fun e he => ?_⟩
  · refine ⟨B, 0, rfl, (Array.getElem?_eq_some_iff.1 h1).1, ?_⟩
    simp [World.cell?, h1, (hz j e he).2.2.1]
  · obtain ⟨j, hj⟩ := List.getElem?_of_mem he
    obtain ⟨e1, e2, e3, e4⟩ := hz j e hj
    have ht := List.mem_of_getElem? e1
    refine ⟨e4, hy _ ht, by omega, ?_⟩
    rw [e2]
    have := hm _ ht
    unfold maxLen
    omega
theorem own_bel {w w' : World} {N B e m g n c : Nat} {xs : List Value} (h : Bel N w w') (hg : g < N) (ho : w.ownsRow B e m (.slice (some ⟨g, 0, none⟩) n c) n xs) : w'.ownsRow B e m (.slice (some ⟨g, 0, none⟩) n c) n xs := by
  refine ⟨ho.1, ?_⟩
  rcases ho.2 with ⟨hv, _⟩ | ⟨g', cp, cur, e', hg', hh, r⟩
  · cases hv
  · injection id e' with e1
    injection e1 with e1
    injection e1 with e1
    subst e1
    exact .inr ⟨g, cp, cur, e', hg', (h.block g hg).trans hh, r⟩
theorem own_gro {w w' : World} {B e m g g2 n c : Nat} {xs : List Value} (h : Gro g2 w w') (hg : g ≠ g2) (ho : w.ownsRow B e m (.slice (some ⟨g, 0, none⟩) n c) n xs) : w'.ownsRow B e m (.slice (some ⟨g, 0, none⟩) n c) n xs := by
  refine ⟨ho.1, ?_⟩
  rcases ho.2 with ⟨hv, _⟩ | ⟨g', cp, cur, e', hg', hh, r⟩
  · cases hv
  · injection id e' with e1
    injection e1 with e1
    injection e1 with e1
    subst e1
    exact .inr ⟨g, cp, cur, e', hg', (h.block g (Array.getElem?_eq_some_iff.1 hh).1 hg).trans hh, r⟩
end Go.Proofs.Ytpdnceeniokemaa

set_option linter.unusedVariables false
set_option linter.unusedSimpArgs false
namespace Go.Proofs.Ytpdnceeniokemaa
open Go Go.Conc Go.RowKit
open Go.Proofs.Ytpdnceeniokemaa.Bb (Tks TO TW tot)
open Go.Proofs.Ytpdnceeniokemaa.Wk (El BodiesV Bel dig_B valsE)
open Go.Proofs.Ytpdnceeniokemaa.Br (BT BTS Hd Pz Pst CallsB bt_ctl bt_cons bt_skip bt_callB bt_call rt AtEnd0)
def PostL (W : World) (v : Value) (w' : World) : Prop := v = .bool true ∧ Bel W.heap.size W w'
theorem R26.i {w : World} {l : List ByteArray} (v : Value) (w' : World) (T : Nat → Question → Nat) (d : Nat) (h : R26 w l v w') : R26 w l v (rt T d w') := by
  obtain ⟨r, h1, h2, h3⟩ := h; exact ⟨r, h1, h2, h3.rtt T d⟩
theorem R26.e {w : World} {l : List ByteArray} (v : Value) (w' : World) (h : R26 w l v w') : ∀ b, Pz w b → Pz w' b := by
  obtain ⟨r, h1, h2, h3⟩ := h; exact h3.kp
theorem R27.i {w : World} {l : List (List Int)} {N : Int} (v : Value) (w' : World) (T : Nat → Question → Nat) (d : Nat) (h : R27 w l N v w') : R27 w l N v (rt T d w') := by
  obtain ⟨r, h1, h2, h3⟩ := h; exact ⟨r, h1, h2, h3.rtt T d⟩
theorem R27.e {w : World} {l : List (List Int)} {N : Int} (v : Value) (w' : World) (h : R27 w l N v w') : ∀ b, Pz w b → Pz w' b := by
  obtain ⟨r, h1, h2, h3⟩ := h; exact h3.kp
theorem R29.i {w : World} {l : List ByteArray} (v : Value) (w' : World) (T : Nat → Question → Nat) (d : Nat) (h : R29 w l v w') : R29 w l v (rt T d w') := by
  obtain ⟨B, h1, h2, h3, h4⟩ := h; exact ⟨B, h1, h2, h3, h4.rtt T d⟩
theorem R29.e {w : World} {l : List ByteArray} (v : Value) (w' : World) (h : R29 w l v w') : ∀ b, Pz w b → Pz w' b := by
  obtain ⟨B, h1, h2, h3, h4⟩ := h; exact h4.kp
theorem R30.i {w : World} {l : List (List Int)} (v : Value) (w' : World) (T : Nat → Question → Nat) (d : Nat) (h : R30 w l v w') : R30 w l v (rt T d w') := by
  obtain ⟨B, h1, h2, h3⟩ := h; exact ⟨B, h1, ⟨h2.ge, h2.lt, h2.blk⟩, h3.rtt T d⟩
theorem R30.e {w : World} {l : List (List Int)} (v : Value) (w' : World) (h : R30 w l v w') : ∀ b, Pz w b → Pz w' b := by
  obtain ⟨B, h1, h2, h3⟩ := h; exact h3.kp
theorem RPk.i {w : World} {ns : List ByteArray} {ts : List (List Int)} (v : Value) (w' : World) (T : Nat → Question → Nat) (d : Nat) (h : RPk w ns ts v w') : RPk w ns ts v (rt T d w') := by
  obtain ⟨L, ok, g, c, h1, h2, h3, h4⟩ := h; exact ⟨L, ok, g, c, h1, h2, h3.rtt T d, h4⟩
theorem RPk.e {w : World} {ns : List ByteArray} {ts : List (List Int)} (v : Value) (w' : World) (h : RPk w ns ts v w') : ∀ b, Pz w b → Pz w' b := by
  obtain ⟨L, ok, g, c, h1, h2, h3, h4⟩ := h; exact h3.kp
theorem RTr.i {w : World} (v : Value) (w' : World) (T : Nat → Question → Nat) (d : Nat) (h : RTr w v w') : RTr w v (rt T d w') := ⟨h.1, h.2.rtt T d⟩
theorem RTr.e {w : World} (v : Value) (w' : World) (h : RTr w v w') : ∀ b, Pz w b → Pz w' b := h.2.kp
theorem R37.i {w : World} {n : Nat} {q : Int} (v : Value) (w' : World) (T : Nat → Question → Nat) (d : Nat) (h : R37 w n q v w') : R37 w n q v (rt T d w') := ⟨h.1, h.2.rtt T d⟩
theorem R37.e {w : World} {n : Nat} {q : Int} (v : Value) (w' : World) (h : R37 w n q v w') : ∀ b, Pz w b → Pz w' b := h.2.kp
theorem Gro.rtt {g : Nat} {a b : World} (h : Gro g a b) (T : Nat → Question → Nat) (d : Nat) : Gro g a (rt T d b) := ⟨h.os, h.output, h.size, h.block⟩
theorem R34.i {w : World} {B g n cap : Nat} {q : Int} (v : Value) (w' : World) (T : Nat → Question → Nat) (d : Nat) (h : R34 w B g n cap q v w') : R34 w B g n cap q v (rt T d w') := ⟨h.1, h.2.1, h.2.2.1.rtt T d, h.2.2.2⟩
theorem R34.e {w : World} {B g n cap : Nat} {q : Int} (v : Value) (w' : World) (h : R34 w B g n cap q v w') : ∀ b, Pz w b → Pz w' b := h.2.2.2
theorem R36.i {w : World} {B g n cap : Nat} {q : Int} (v : Value) (w' : World) (T : Nat → Question → Nat) (d : Nat) (h : R36 w B g n cap q v w') : R36 w B g n cap q v (rt T d w') := ⟨h.1, h.2.1, h.2.2.1.rtt T d, h.2.2.2⟩
theorem R36.e {w : World} {B g n cap : Nat} {q : Int} (v : Value) (w' : World) (h : R36 w B g n cap q v w') : ∀ b, Pz w b → Pz w' b := h.2.2.2
theorem R35.i {w : World} {lo hi : Nat} (v : Value) (w' : World) (T : Nat → Question → Nat) (d : Nat) (h : R35 w lo hi v w') : R35 w lo hi v (rt T d w') := h
theorem R35.e {w : World} {lo hi : Nat} (v : Value) (w' : World) (h : R35 w lo hi v w') : ∀ b, Pz w b → Pz w' b := by
  obtain ⟨r, _, _, _, _, _, _, h⟩ := h; exact h
theorem Wk.Bel.sts {w w' : World} {a : Option Addr} {l : List ByteArray} (h : Bel w.heap.size w w') (hs : Sts w a l) : Sts w' a l :=
  Sts.below (w' := { w' with tape := w.tape }) hs ⟨h.os, rfl, h.output, h.size, h.block⟩
theorem Wk.Bel.tks {w w' : World} {a : Option Addr} {l : List (List Int)} (h : Bel w.heap.size w w') (hs : Tks w a l) : Tks w' a l :=
  Bb.Tks.below (w' := { w' with tape := w.tape }) hs ⟨h.os, rfl, h.output, h.size, h.block⟩
end Go.Proofs.Ytpdnceeniokemaa
