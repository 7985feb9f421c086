/-
  valuesOf, by goroutine 0 beside leavers.
  all, by goroutine 0 beside leavers.
-/
import Derived.Test.YtpmmimcafkillaaZYg
set_option linter.unusedVariables false
set_option linter.unusedSimpArgs false
namespace Go.Proofs.Ytpmmimcafkillaa.Tr
open Go Go.Conc Go.ConcN Go.RowKit Go.Conc.Lib Go.ConcR.Gen Go.ConcM
open Go.ConcR (KK wgBlock WgAt stA smA rd wr mk DC0)
open Go.Proofs.Ytpmmimcafkillaa.Mx
open Go.Proofs.Ytpmmimcafkillaa.Mx (Mu St)
open Go.Proofs.Ytpmmimcafkillaa.Br (EvN)
/-- what goroutine 0 knows: below all stands but the ledger's word; its own blocks -/
structure Kp (Wb : World) (Lg Mp n : Nat) (m : Int) (L : List (Nat × Obj)) (w : World) : Prop where
  low : ∀ b, b < Wb.heap.size → b ≠ Lg → w.heap[b]? = Wb.heap[b]?
  lg : w.heap[Lg]? = some (.cells #[.int .i32 m, .int .u32 0, .map (some Mp), .int .i64 (n : Int)] 92 (0, 0))
  size : Wb.heap.size ≤ w.heap.size
  tape : w.tape = Wb.tape
  output : w.output = Wb.output
  os : w.os = Wb.os
  pin : ∀ x ∈ L, Wb.heap.size ≤ x.1 ∧ w.heap[x.1]? = some x.2
section
variable {Wb w : World} {Lg Mp n : Nat} {m : Int} {L L' : List (Nat × Obj)}
theorem Kp.at (w : World) (d : Nat) (h : Kp Wb Lg Mp n m L w) : Kp Wb Lg Mp n m L (w.at d) := ⟨h.low, h.lg, h.size, h.tape, h.output, h.os, h.pin⟩
theorem Kp.less (h : Kp Wb Lg Mp n m L w) (hL : ∀ x ∈ L', x ∈ L) : Kp Wb Lg Mp n m L' w := ⟨h.low, h.lg, h.size, h.tape, h.output, h.os, fun x hx => h.pin x (hL x hx)⟩
theorem Kp.word (h : Kp Wb Lg Mp n m L w) (hlg : Lg < Wb.heap.size) (m' : Int) : Kp Wb Lg Mp n m' L (w.setCell ⟨Lg, 0, none⟩ (.int .i32 m')) := by
  have A := aside_setCell w ⟨Lg, 0, none⟩ (.int .i32 m')
  refine ⟨fun b h1 h2 => (A.block b h2).trans (h.low b h1 h2), ?_, by rw [A.size]; exact h.size, A.tape.trans h.tape, A.output.trans h.output, A.os.trans h.os, fun x hx => ⟨(h.pin x hx).1, (A.block _ (by have := (h.pin x hx).1; show x.1 ≠ Lg; omega)).trans (h.pin x hx).2⟩⟩
  rw [setCell_eq_setRow w Lg 0 _ 92 (0, 0) _ h.lg, setRow_heap w Lg _ _ 92 _ h.lg]
  simp
theorem Kp.word0 (h : Kp Wb Lg Mp n m L w) : w.cell? ⟨Lg, 0, none⟩ = some (.int .i32 m) ∧ w.frozen? ⟨Lg, 0, none⟩ = false := ⟨by simp [World.cell?, h.lg], by simp [World.frozen?, h.lg]⟩
theorem Kp.alloc (h : Kp Wb Lg Mp n m L w) (hlg : Lg < Wb.heap.size) (ob : Obj) : Kp Wb Lg Mp n m ((w.heap.size, ob) :: L) (w.alloc ob) := by
  have hb : ∀ b, b < w.heap.size → (w.alloc ob).heap[b]? = w.heap[b]? := fun b hb => (by show (w.heap.push ob)[b]? = w.heap[b]?; rw [Array.getElem?_push, if_neg (by omega)])
  have hs := h.size
  refine ⟨fun b h1 h2 => (hb b (by omega)).trans (h.low b h1 h2), (hb Lg (by omega)).trans h.lg, by show _ ≤ (w.heap.push ob).size; simp; omega, h.tape, h.output, h.os, fun x hx => ?_⟩
  rcases List.mem_cons.1 hx with rfl | hx
  · exact ⟨hs, heap_alloc_new w _⟩
  · have := h.pin x hx
    exact ⟨this.1, (hb _ (Array.getElem?_eq_some_iff.1 this.2).1).trans this.2⟩
theorem Kp.turn {B i : Nat} {ob ob' : Obj} {v : Value} (h : Kp Wb Lg Mp n m ((B, ob) :: L) w) (hlg : Lg < Wb.heap.size) (hn : ∀ x ∈ L, x.1 ≠ B) (ho : (w.setCell ⟨B, i, none⟩ v).heap[B]? = some ob') : Kp Wb Lg Mp n m ((B, ob') :: L) (w.setCell ⟨B, i, none⟩ v) := by
  have A := aside_setCell w ⟨B, i, none⟩ v
  have hB := (h.pin (B, ob) (by simp)).1
  simp only at hB
  refine ⟨fun b h1 h2 => (A.block b (by show b ≠ B; omega)).trans (h.low b h1 h2), (A.block Lg (by show Lg ≠ B; omega)).trans h.lg, by rw [A.size]; exact h.size, A.tape.trans h.tape, A.output.trans h.output, A.os.trans h.os, fun x hx => ?_⟩
  rcases List.mem_cons.1 hx with rfl | hx
  · exact ⟨hB, ho⟩
  · have := h.pin x (List.mem_cons_of_mem _ hx)
    exact ⟨this.1, (A.block _ (hn x hx)).trans this.2⟩
end
section
variable {Q : Goroutine → World → Prop} {S : Nat → Prop} {Wb : World} {Lg Mp n g1 cap : Nat} {ns vs : List Int} {lm : List (Int × Int)} {numsO : Obj}
variable {b₀ : Frame} {a₀ : Act} {ops₀ : Array Oper} {i₀ : Nat} {rest₀ : List Nat} {k₀ : List Item} {cs : List Frame}
set_option maxRecDepth 100000 in
set_option maxHeartbeats 4000000 in
theorem headV0 (hlg : Lg < Wb.heap.size) (hmp : Mp < Wb.heap.size) (nLM : Mp ≠ Lg) (hS : ∀ b, S b → b < Wb.heap.size) (nS : ¬ S Lg) (hM : MpAt Mp Wb lm) (hv : vs.length = ns.length) (hn : ns.length ≤ 1000)
    (hnums : numsO = .cells (ns.map (Value.int .i64)).toArray 2 (0, 0)) (hLook : ∀ (j : Nat) (n v : Int), ns[j]? = some n → vs[j]? = some v → look lm n = some v) (hk0 : b₀.kind ≠ .early)
    (hT : ∀ B w, B ≠ g1 → Kp Wb Lg Mp n 0 [(B, .cells (vs.map (Value.int .i64)).toArray 2 (0, 0)), (g1, numsO)] w → RTS Try.prog Q S 0 (G (b₀.at (a₀.put ((ops₀[i₀]?).bind (·.dst)) (.slice (some ⟨B, 0, none⟩) ns.length ns.length)) (.inRegion ops₀ rest₀ :: k₀)) cs) w) :
    ∀ (r : Nat) (B : Nat) (cur : Array Value) (j : Nat), B ≠ g1 → cur.size = ns.length → j + r = ns.length → cur.toList.take j = (vs.take j).map (Value.int .i64) → ∀ (j1 j2 j3 j4 j6 j7 j8 j9 j10 j11 j12 j13 j14 j15 j16 j17 j21 j22 j23 j24 j25 j26 j27 j28 j29 j30 j31 j32 j33 j34 : Value) w, Kp Wb Lg Mp n 1 [(B, .cells cur 2 (0, 0)), (g1, numsO)] w →
      RTS Try.prog Q S 0 (G ((base 62).at ⟨#[.pointer (some ⟨Lg, 0, none⟩), j1, j2, j3, j4, .slice (some ⟨B, 0, none⟩) j ns.length, j6, j7, j8, j9, j10, j11, j12, j13, j14, j15, j16, j17, .slice (some ⟨g1, 0, none⟩) ns.length cap, .int .i64 (ns.length : Int), .int .i64 (j : Int), j21, j22, j23, j24, j25, j26, j27, j28, j29, j30, j31, j32, j33, j34], [dcall 85 #[.pointer (some ⟨Lg, 0, none⟩)]]⟩ [.code LV, .inLoop LV, .inBlock 0, .code RV]) (b₀.at a₀ (.inRegion ops₀ (i₀ :: rest₀) :: k₀) :: cs)) w := by
  intro r
  induction r with
  | zero =>
    intro B cur j hBg hcs hj htk j1 j2 j3 j4 j6 j7 j8 j9 j10 j11 j12 j13 j14 j15 j16 j17 j21 j22 j23 j24 j25 j26 j27 j28 j29 j30 j31 j32 j33 j34 w hF
    obtain rfl : j = ns.length := by omega
    have e1 : cur = (vs.map (Value.int .i64)).toArray := by
      apply Array.ext'
      rw [List.take_of_length_le (by simp; omega), List.take_of_length_le (by omega)] at htk
      simpa using htk
    subst e1
    have hUn := fun (c : Frame) (cs : List Frame) hcm hT' => unlock0 (S := S) (Q := Q) (Lg := Lg) (c := c) (cs := cs) (Kn := Kp Wb Lg Mp n 1 [(B, .cells (vs.map (Value.int .i64)).toArray 2 (0, 0)), (g1, numsO)]) (Kn1 := Kp Wb Lg Mp n 0 [(B, .cells (vs.map (Value.int .i64)).toArray 2 (0, 0)), (g1, numsO)]) Kp.at Kp.at (fun w h => h.word0) (fun w h => h.word hlg 0) nS hcm hT'
    simp only [body85, Try.f85, Option.getD_some] at hUn
    simp only [LV, RV, loopOf, sndS, body62, Try.f62, Option.getD_some]
    refine RTS.goes 60 _ _ ?_
    repeat w_go (atl Kp.at)
    u_in (atl Kp.at) hF
    rw [stepG_unwind_enter rfl Try.func85 nm85 rfl]
    simp only [goes_go]
    refine ⟨by u_nil, ?_⟩
    walk_nrmf Try.f85
    refine Goes.stop (fun w r => ?_)
    replace hF := atl Kp.at hF r
    clear r
    refine hUn _ _ rfl (fun w hF => ?_) _ hF
    refine RTS.goes 20 _ _ ?_
    u_leave1 Try.func62 (atl Kp.at) hF
    refine Goes.stop (fun w r => ?_)
    exact hT B _ hBg (atl Kp.at hF r)
  | succ r ih =>
    intro B cur j hBg hcs hj htk j1 j2 j3 j4 j6 j7 j8 j9 j10 j11 j12 j13 j14 j15 j16 j17 j21 j22 j23 j24 j25 j26 j27 j28 j29 j30 j31 j32 j33 j34 w hF
    have hjl : j < ns.length := by omega
    obtain ⟨num, hnum⟩ : ∃ n, ns[j]? = some n := ⟨_, List.getElem?_eq_getElem hjl⟩
    obtain ⟨val, hval⟩ : ∃ n, vs[j]? = some n := ⟨_, List.getElem?_eq_getElem (by omega)⟩
    have q1 : decide ((j : Int) < (ns.length : Int)) = true := decide_eq_true (by omega)
    have hwr : IntKind.i64.wrap ((j : Int) + 1) = ((j + 1 : Nat) : Int) := by rw [IntKind.wrap_i64]; omega
    simp only [LV, RV, loopOf, sndS, body62, Try.f62, Option.getD_some] at ih
    simp only [LV, RV, loopOf, sndS, body62, Try.f62, Option.getD_some]
    refine RTS.goes 60 _ _ ?_
    repeat (w_but "op" (atl Kp.at))
    w_go (atl Kp.at)
    repeat (w_but "op" (atl Kp.at))
    u_in (atl Kp.at) hF
    rw [stepG_index (j := j) rfl rfl (by k_ne) rfl rfl rfl hjl]
    simp only [goes_go]
    refine ⟨by u_nil, ?_⟩
    walk_nrm
    refine Goes.stop (fun w r => ?_)
    replace hF := atl Kp.at hF r
    clear r
    -- the number
    have hcl : ∀ dd, (w.at dd).cell? ((⟨g1, 0, none⟩ : Addr).add j) = some (.int .i64 num) := fun dd => by
      have := (hF.pin (g1, numsO) (by simp)).2
      rw [addr_add, Nat.zero_add]
      simp only [hnums] at this
      simp [World.cell?, World.at, this, hnum]
    refine RTS.step rfl fun dd => ⟨_, _, _, stepG_load2 rfl rfl (by k_ne) rfl rfl (hcl dd) loud62, (by intro x hx; simp at hx; subst hx; rw [addr_add]; exact evN_cell (fun h => by have := hS _ h; have := (hF.pin (g1, numsO) (by simp)).1; simp at *; omega)), ?_⟩
    show RTS Try.prog Q S 0 _ _
    replace hF := Kp.at _ dd hF
    clear hcl
    refine RTS.goes 60 _ _ ?_
    walk_nrm
    repeat w_go (atl Kp.at)
    refine Goes.stop (fun w r => ?_)
    replace hF := atl Kp.at hF r
    clear r
    -- the map
    refine RTS.step rfl fun dd => ⟨_, _, _, stepG_loadM rfl rfl (by k_ne) rfl rfl (v := some Mp) (by have := hF.lg; simp [World.cell?, World.at, this]) loud62, (by intro x hx; simp at hx; subst hx; exact evN_cell nS), ?_⟩
    show RTS Try.prog Q S 0 _ _
    replace hF := Kp.at _ dd hF
    refine RTS.goes 60 _ _ ?_
    walk_nrm
    repeat w_go (atl Kp.at)
    refine Goes.stop (fun w r => ?_)
    replace hF := atl Kp.at hF r
    clear r
    have hM' : ∀ dd, MpAt Mp (w.at dd) lm := fun dd => by
      obtain ⟨es, c, h1, h2⟩ := hM
      exact ⟨es, c, (hF.low Mp hmp nLM).trans h1, h2⟩
    refine RTS.step rfl fun dd => ⟨_, _, _, stepG_look rfl rfl (by k_ne) rfl rfl rfl (hM' dd) (hLook j num val hnum hval) loud62, (by intro x hx; simp at hx; subst hx; exact evN_obj), ?_⟩
    show RTS Try.prog Q S 0 _ _
    replace hF := Kp.at _ dd hF
    clear hM'
    walk_nrm
    -- a row of one
    refine RTS.step rfl fun d2 => ⟨_, _, _, stepG_build rfl rfl (by k_ne) rfl rfl, (by simp), ?_⟩
    show RTS Try.prog Q S 0 _ _
    replace hF := Kp.at _ d2 hF
    have hBlt : B < ((w.at dd).at d2).heap.size := (Array.getElem?_eq_some_iff.1 (hF.pin (B, .cells cur 2 (0, 0)) (by simp)).2).1
    replace hF := hF.alloc hlg (.cells #[.int .i64 val] 2 (0, 0))
    have hne := Nat.ne_of_lt hBlt
    clear hBlt
    generalize ((w.at dd).at d2).heap.size = hb at hF hne ⊢
    generalize ((w.at dd).at d2).alloc (.cells #[.int .i64 val] 2 (0, 0)) = w at hF ⊢
    refine RTS.goes 60 _ _ ?_
    walk_nrm
    repeat w_go (atl Kp.at)
    refine Goes.stop (fun w r => ?_)
    replace hF := atl Kp.at hF r
    clear r
    -- the append
    have hB0 := fun dd => (Kp.at _ dd hF).pin (B, .cells cur 2 (0, 0)) (by simp)
    have hh0 := fun dd => (Kp.at _ dd hF).pin (hb, .cells #[.int .i64 val] 2 (0, 0)) (by simp)
    refine RTS.step rfl fun dd => ⟨_, _, _, stepG_append rfl rfl (by k_ne) rfl rfl rfl (hB0 dd).2 hjl (by omega) (hh0 dd).2 loud62, (by
      intro x hx
      simp at hx
      rcases hx with rfl | rfl
      · exact evN_cell (fun h => by have := hS _ h; have := (hh0 dd).1; simp at *; omega)
      · exact evN_cell (fun h => by have := hS _ h; have := (hB0 dd).1; simp at *; omega)), ?_⟩
    show RTS Try.prog Q S 0 _ _
    obtain ⟨cur', hb', hsz', htk'⟩ := row_set (v := .int .i64 val) (hB0 dd).2 (show j < cur.size by omega)
    replace hF := Kp.at _ dd hF
    replace hF := Kp.turn (ob := .cells cur 2 (0, 0)) (ob' := .cells cur' 2 (0, 0)) (L := [(hb, .cells #[.int .i64 val] 2 (0, 0)), (g1, numsO)]) (hF.less (by intro x hx; simp at hx ⊢; rcases hx with h | h | h <;> simp [h])) hlg (by intro x hx; simp at hx; rcases hx with rfl | rfl; exact hne.symm; exact hBg.symm) hb'
    replace hF := hF.less (L' := [(B, .cells cur' 2 (0, 0)), (g1, numsO)]) (by intro x hx; simp at hx ⊢; rcases hx with h | h <;> simp [h])
    clear hB0 hh0 hb'
    refine RTS.goes 60 _ _ ?_
    walk_nrm
    repeat w_nl (atl Kp.at)
    u_c stepG_inLoop (atl Kp.at) hF
    refine Goes.stop (fun w r => ?_)
    replace hF := atl Kp.at hF r
    clear r
    exact ih B cur' (j + 1) hBg (hsz'.trans hcs) (by omega) (by rw [htk', htk, List.take_add_one, hval]; simp) _ _ _ _ _ _ _ _ _ _ _ _ _ _ _ _ _ _ _ _ _ _ _ _ _ _ _ _ _ _ _ hF
set_option maxRecDepth 100000 in
set_option maxHeartbeats 4000000 in
/-- ████ valuesOf ████ -/
theorem valuesA (hlg : Lg < Wb.heap.size) (hmp : Mp < Wb.heap.size) (nLM : Mp ≠ Lg) (hS : ∀ b, S b → b < Wb.heap.size) (nS : ¬ S Lg) (hM : MpAt Mp Wb lm) (hv : vs.length = ns.length) (hn : ns.length ≤ 1000)
    (hnums : numsO = .cells (ns.map (Value.int .i64)).toArray 2 (0, 0)) (hLook : ∀ (j : Nat) (n v : Int), ns[j]? = some n → vs[j]? = some v → look lm n = some v) (hk0 : b₀.kind ≠ .early)
    (hT : ∀ B w, B ≠ g1 → Kp Wb Lg Mp n 0 [(B, .cells (vs.map (Value.int .i64)).toArray 2 (0, 0)), (g1, numsO)] w → RTS Try.prog Q S 0 (G (b₀.at (a₀.put ((ops₀[i₀]?).bind (·.dst)) (.slice (some ⟨B, 0, none⟩) ns.length ns.length)) (.inRegion ops₀ rest₀ :: k₀)) cs) w) :
    ∀ w, Kp Wb Lg Mp n 0 [(g1, numsO)] w → RTS Try.prog Q S 0 (G ((base 62).at ⟨#[.pointer (some ⟨Lg, 0, none⟩), .slice (some ⟨g1, 0, none⟩) ns.length cap, undef, undef, undef, undef, undef, undef, undef, undef, undef, undef, undef, undef, undef, undef, undef, undef, undef, undef, undef, undef, undef, undef, undef, undef, undef, undef, undef, undef, undef, undef, undef, undef, undef], []⟩ [.code body62]) (b₀.at a₀ (.inRegion ops₀ (i₀ :: rest₀) :: k₀) :: cs)) w := by
  intro w hF
  have hHead := headV0 (Q := Q) (cap := cap) (n := n) (b₀ := b₀) (a₀ := a₀) (ops₀ := ops₀) (i₀ := i₀) (rest₀ := rest₀) (k₀ := k₀) (cs := cs) hlg hmp nLM hS nS hM hv hn hnums hLook hk0 hT
  simp only [LV, RV, loopOf, sndS, body62, Try.f62, Option.getD_some] at hHead
  simp only [body62, Try.f62, Option.getD_some]
  refine RTS.goes 60 _ _ ?_
  repeat w_go (atl Kp.at)
  u_call Try.func84 nm84 Try.f84 (atl Kp.at) hF
  have hLk := fun (b₁ : Frame) (a₁ : Act) (ops₁ : Array Oper) (i₁ : Nat) (rest₁ : List Nat) (k₁ : List Item) (cs₁ : List Frame) hk1 hT' => lock0 (S := S) (Q := Q) (Lg := Lg) (b₀ := b₁) (a₀ := a₁) (ops₀ := ops₁) (i₀ := i₁) (rest₀ := rest₁) (k₀ := k₁) (cs := cs₁) (Kn := Kp Wb Lg Mp n 0 [(g1, numsO)]) (Kn1 := Kp Wb Lg Mp n 1 [(g1, numsO)]) Kp.at Kp.at (fun w h => h.word0) (fun w h => h.word hlg 1) (fun w h => h.word0.1) nS hk1 hT'
  simp only [body84, Try.f84, Option.getD_some] at hLk
  refine Goes.stop (fun w r => ?_)
  replace hF := atl Kp.at hF r
  clear r
  refine hLk _ _ _ _ _ _ _ (by k_ne) (fun w hF => ?_) _ hF
  clear hLk
  refine RTS.goes 100 _ _ ?_
  walk_nrm
  repeat w_go (atl Kp.at)
  u_defer (atl Kp.at) hF
  repeat w_go (atl Kp.at)
  refine Goes.stop (fun w r => ?_)
  replace hF := atl Kp.at hF r
  clear r
  -- the row
  have hmk := fun dd => run_make1 (w := w.at dd) (n := ns.length) (by omega)
  refine RTS.step rfl fun dd => ?_
  obtain ⟨cur, hcs, hm1, hm2⟩ := hmk dd
  refine ⟨_, _, _, stepG_makeR rfl rfl (by k_ne) rfl rfl hm1 hm2, (by simp), ?_⟩
  show RTS Try.prog Q S 0 _ _
  replace hF := Kp.at _ dd hF
  have hg1 : g1 < (w.at dd).heap.size := (Array.getElem?_eq_some_iff.1 (hF.pin (g1, numsO) (by simp)).2).1
  replace hF := hF.alloc hlg (.cells cur 2 (0, 0))
  have hne := (Nat.ne_of_lt hg1).symm
  clear hg1 hm1 hm2
  generalize (w.at dd).heap.size = B at hF hne ⊢
  generalize (w.at dd).alloc (.cells cur 2 (0, 0)) = w at hF ⊢
  refine RTS.goes 60 _ _ ?_
  walk_nrm
  repeat (w_but "code.loop" (atl Kp.at))
  u_c stepG_loop (atl Kp.at) hF
  refine Goes.stop (fun w r => ?_)
  replace hF := atl Kp.at hF r
  clear r
  exact hHead ns.length B cur 0 hne hcs (by omega) (by simp) _ _ _ _ _ _ _ _ _ _ _ _ _ _ _ _ _ _ _ _ _ _ _ _ _ _ _ _ _ _ _ hF
end
end Go.Proofs.Ytpmmimcafkillaa.Tr

set_option linter.unusedVariables false
set_option linter.unusedSimpArgs false
namespace Go.Proofs.Ytpmmimcafkillaa.Tr
open Go Go.Conc Go.ConcN Go.RowKit Go.Conc.Lib Go.ConcR.Gen Go.ConcM
open Go.ConcR (KK wgBlock WgAt stA smA rd wr mk DC0)
open Go.Proofs.Ytpmmimcafkillaa.Mx
open Go.Proofs.Ytpmmimcafkillaa.Mx (Mu St)
open Go.Proofs.Ytpmmimcafkillaa.Br (EvN)
theorem nm91 : (Try.f91.name == "runtime.NumGoroutine") = false := by kernel_rfl
theorem nm62 : (Try.f62.name == "runtime.NumGoroutine") = false := by kernel_rfl
theorem x100_n : (Try.f100.name == "runtime.NumGoroutine") = false := by kernel_rfl
theorem x100_b : Try.f100.body.isNone = true := by kernel_rfl
theorem x100_x : Extern.findNext Try.f100 = none := by kernel_rfl
theorem x100_f : Extern.find Try.f100 = some (Extern.Atomic.loadT (.int .i64)) := by kernel_rfl
theorem loud64 : (Try.prog.funcs[(base 64).fn]?).any (·.norace) = false := by kernel_rfl
theorem run_makeN {w : World} {n : Nat} (hn : n ≤ 100000) : ∃ cur : Array Value, cur.size = n ∧ (Instr.makeSlice 29 (.int .i64 (n : Int)) (.int .i64 (n : Int))).run Try.prog w = .ok (.slice (some ⟨w.heap.size, 0, none⟩) n n) (w.alloc (.cells cur 2 (0, 0))) ∧
      (Instr.makeSlice 29 (.int .i64 (n : Int)) (.int .i64 (n : Int))).events Try.prog w #[] = #[] := by
  obtain ⟨i, hi, hs, hby, hz⟩ := i2
  have hr := run_make (P := Try.prog) w 29 2 i _ u29 hi hz .i64 .i64 n n (by omega) (by omega) (by rw [hby]; omega) (by omega)
  have he := events_make (P := Try.prog) w 29 2 i _ u29 hi hz .i64 .i64 n n (by omega) (by omega) (by rw [hby]; omega) (by omega) (by rw [hby]; omega) #[]
  exact ⟨_, by rw [size_madeCells, hs]; simp, hr, he⟩
section
variable {main : Bool} {b : Frame} {a : Act} {kk : List Item} {cs : List Frame} {w : World} {ops : Array Oper} {i : Nat} {rest : List Nat} {o : Oper}
theorem stepG_makeNN {x : Operand} (ho : ops[i]? = some o) (hw : Region.wanted o (yielded ops a.tmps) = true) (hk : b.kind ≠ .early) (hop : o.op = .makeSlice 29 x x)
    {n : Nat} {ob : Obj} (hx : a.eval x = .int .i64 (n : Int)) (h1 : (Instr.makeSlice 29 (.int .i64 (n : Int)) (.int .i64 (n : Int))).run Try.prog w = .ok (.slice (some ⟨w.heap.size, 0, none⟩) n n) (w.alloc ob))
    (h2 : (Instr.makeSlice 29 (.int .i64 (n : Int)) (.int .i64 (n : Int))).events Try.prog w #[] = #[]) :
    stepG Try.prog main (G (b.at a (.inRegion ops (i :: rest) :: kk)) cs) w = .go (G (b.at (a.put o.dst (.slice (some ⟨w.heap.size, 0, none⟩) n n)) (.inRegion ops rest :: kk)) cs) (w.alloc ob) #[] := by
  have hr : (execOp a.eval o).run Try.prog w = .ok (.value (.slice (some ⟨w.heap.size, 0, none⟩) n n)) (w.alloc ob) := by
    unfold execOp
    simp only [hop, hx]
    simp only [h1, Sem.run_bind, Result.andThen_ok, Sem.run_pure]
  have he : (execOp a.eval o).events Try.prog w #[] = #[] := by
    unfold execOp
    simp only [hop, hx]
    simp only [h1, h2, Sem.events_bind, Result.evThen_ok, Sem.events_pure]
  rw [stepG_value ho hw hk hr]
  unfold listed
  rw [he, seen_none]
theorem stepG_store2V {x y : Operand} (ho : ops[i]? = some o) (hw : Region.wanted o (yielded ops a.tmps) = true) (hk : b.kind ≠ .early) (hop : o.op = .store 2 x y)
    {ad : Addr} {v : Int} {u : Value} (hx : a.eval x = .pointer (some ad)) (hy : a.eval y = .int .i64 v) (hc : w.cell? ad = some u) (hf : w.frozen? ad = false) (hq : (Try.prog.funcs[b.fn]?).any (·.norace) = false) :
    stepG Try.prog main (G (b.at a (.inRegion ops (i :: rest) :: kk)) cs) w = .go (G (b.at (a.put o.dst undef) (.inRegion ops rest :: kk)) cs) (w.setCell ad (.int .i64 v)) #[⟨.cell ad, true, false⟩] := by
  have hr : (execOp a.eval o).run Try.prog w = .ok .skip (w.setCell ad (.int .i64 v)) := by
    unfold execOp
    simp only [hop, hx, hy]
    simp [go_sem, hc, hf]
    try (unfold stored; simp [go_sem, hc, hf])
  have he : (execOp a.eval o).events Try.prog w #[] = #[⟨.cell ad, true, false⟩] := by
    unfold execOp
    simp only [hop, hx, hy]
    simp [go_sem, hc, hf]
  rw [stepG_none ho hw hk hr]
  unfold listed
  rw [he, seen_eq hq (by simp)]
end
noncomputable def body64 : Code := Try.f64.body.getD .skip
noncomputable def L64 : Code := (loopOf body64).getD .skip
noncomputable def R64 : Code := sndS (sndS (sndS body64))
section
variable {Q : Goroutine → World → Prop} {S : Nat → Prop} {Wb : World} {Lg Mp : Nat} {ns vs : List Int} {lm : List (Int × Int)}
variable {b₀ : Frame} {a₀ : Act} {ops₀ : Array Oper} {i₀ : Nat} {rest₀ : List Nat} {k₀ : List Item} {cs : List Frame}
set_option maxRecDepth 100000 in
set_option maxHeartbeats 4000000 in
theorem headA (hlg : Lg < Wb.heap.size) (hmp : Mp < Wb.heap.size) (nLM : Mp ≠ Lg) (hS : ∀ b, S b → b < Wb.heap.size) (nS : ¬ S Lg) (hM : MpAt Mp Wb lm) (hv : vs.length = ns.length) (hn : ns.length ≤ 1000) (hns : ∀ j, j < ns.length → ns[j]? = some (j : Int))
    (hLook : ∀ (j : Nat) (n v : Int), ns[j]? = some n → vs[j]? = some v → look lm n = some v) (hk0 : b₀.kind ≠ .early)
    (hT : ∀ B w, Kp Wb Lg Mp ns.length 0 [(B, .cells (vs.map (Value.int .i64)).toArray 2 (0, 0))] w → RTS Try.prog Q S 0 (G (b₀.at (a₀.put ((ops₀[i₀]?).bind (·.dst)) (.slice (some ⟨B, 0, none⟩) ns.length ns.length)) (.inRegion ops₀ rest₀ :: k₀)) cs) w) :
    ∀ (r : Nat) (B : Nat) (cur : Array Value) (j : Nat), cur.size = ns.length → j + r = ns.length → cur.toList.take j = (ns.take j).map (Value.int .i64) → ∀ (j1 j2 j4 j5 j6 j7 j8 j9 j13 j14 j15 j16 j17 j18 j19 j20 j21 j22 : Value) w, Kp Wb Lg Mp ns.length 0 [(B, .cells cur 2 (0, 0))] w →
      RTS Try.prog Q S 0 (G ((base 64).at ⟨#[.pointer (some ⟨Lg, 0, none⟩), j1, j2, .slice (some ⟨B, 0, none⟩) ns.length ns.length, j4, j5, j6, j7, j8, j9, .slice (some ⟨B, 0, none⟩) ns.length ns.length, .int .i64 (ns.length : Int), .int .i64 (j : Int), j13, j14, j15, j16, j17, j18, j19, j20, j21, j22], []⟩ [.code L64, .inLoop L64, .inBlock 0, .code R64]) (b₀.at a₀ (.inRegion ops₀ (i₀ :: rest₀) :: k₀) :: cs)) w := by
  intro r
  induction r with
  | zero =>
    intro B cur j hcs hj htk j1 j2 j4 j5 j6 j7 j8 j9 j13 j14 j15 j16 j17 j18 j19 j20 j21 j22 w hF
    obtain rfl : j = ns.length := by omega
    have e1 : cur = (ns.map (Value.int .i64)).toArray := by
      apply Array.ext'
      rw [List.take_of_length_le (by simp; omega), List.take_of_length_le (by omega)] at htk
      simpa using htk
    have hq : decide ((ns.length : Int) < (ns.length : Int)) = false := decide_eq_false (by omega)
    have hVl := fun (b₁ : Frame) (a₁ : Act) (ops₁ : Array Oper) (i₁ : Nat) (rest₁ : List Nat) (k₁ : List Item) (cs₁ : List Frame) hk1 hT1 => valuesA (Q := Q) (n := ns.length) (cap := ns.length) (g1 := B) (numsO := .cells cur 2 (0, 0)) (b₀ := b₁) (a₀ := a₁) (ops₀ := ops₁) (i₀ := i₁) (rest₀ := rest₁) (k₀ := k₁) (cs := cs₁) hlg hmp nLM hS nS hM hv hn (by rw [e1]) hLook hk1 hT1
    simp only [body62, Try.f62, Option.getD_some] at hVl
    simp only [L64, R64, loopOf, sndS, body64, Try.f64, Option.getD_some]
    refine RTS.goes 60 _ _ ?_
    repeat w_go (atl Kp.at)
    u_call Try.func62 nm62 Try.f62 (atl Kp.at) hF
    refine Goes.stop (fun w r => ?_)
    replace hF := atl Kp.at hF r
    clear r
    refine hVl _ _ _ _ _ _ _ (by k_ne) (fun B' w hne hF => ?_) _ hF
    refine RTS.goes 40 _ _ ?_
    walk_nrm
    repeat w_go (atl Kp.at)
    u_leave1 Try.func64 (atl Kp.at) hF
    refine Goes.stop (fun w r => ?_)
    exact hT B' _ ((atl Kp.at hF r).less (by intro x hx; simp at hx ⊢; exact .inl hx))
  | succ r ih =>
    intro B cur j hcs hj htk j1 j2 j4 j5 j6 j7 j8 j9 j13 j14 j15 j16 j17 j18 j19 j20 j21 j22 w hF
    have hjl : j < ns.length := by omega
    have q1 : decide ((j : Int) < (ns.length : Int)) = true := decide_eq_true (by omega)
    have hwr : IntKind.i64.wrap ((j : Int) + 1) = ((j + 1 : Nat) : Int) := by rw [IntKind.wrap_i64]; omega
    simp only [L64, R64, loopOf, sndS, body64, Try.f64, Option.getD_some] at ih
    simp only [L64, R64, loopOf, sndS, body64, Try.f64, Option.getD_some]
    refine RTS.goes 60 _ _ ?_
    repeat (w_but "op" (atl Kp.at))
    w_go (atl Kp.at)
    repeat (w_but "op" (atl Kp.at))
    w_go (atl Kp.at)
    w_go (atl Kp.at)
    repeat (w_but "op" (atl Kp.at))
    w_go (atl Kp.at)
    w_go (atl Kp.at)
    w_go (atl Kp.at)
    u_in (atl Kp.at) hF
    rw [stepG_index (j := j) rfl rfl (by k_ne) rfl rfl rfl hjl]
    simp only [goes_go]
    refine ⟨by u_nil, ?_⟩
    walk_nrm
    refine Goes.stop (fun w r => ?_)
    replace hF := atl Kp.at hF r
    clear r
    -- it is filled in
    have hB0 := fun dd => (Kp.at _ dd hF).pin (B, .cells cur 2 (0, 0)) (by simp)
    have hjc : j < cur.size := by omega
    refine RTS.step rfl fun dd => ⟨_, _, _, stepG_store2V (u := cur[j]) (ad := ⟨B, j, none⟩) (v := (j : Int)) rfl rfl (by k_ne) rfl (by simp [Act.eval, addr_add]) rfl (by simp [World.cell?, (hB0 dd).2, hjc]) (by simp [World.frozen?, (hB0 dd).2]) loud64, (by
      intro x hx
      simp at hx
      subst hx
      exact evN_cell (fun h => by have := hS _ h; have := (hB0 dd).1; simp at *; omega)), ?_⟩
    show RTS Try.prog Q S 0 _ _
    obtain ⟨cur', hb', hsz', htk'⟩ := row_set (v := .int .i64 (j : Int)) (hB0 dd).2 hjc
    replace hF := Kp.turn (ob := .cells cur 2 (0, 0)) (ob' := .cells cur' 2 (0, 0)) (L := []) (Kp.at _ dd hF) hlg (by intro x hx; cases hx) hb'
    clear hB0 hb'
    refine RTS.goes 60 _ _ ?_
    walk_nrm
    repeat w_nl (atl Kp.at)
    u_c stepG_inLoop (atl Kp.at) hF
    refine Goes.stop (fun w r => ?_)
    replace hF := atl Kp.at hF r
    clear r
    exact ih B cur' (j + 1) (hsz'.trans hcs) (by omega) (by rw [htk', htk, List.take_add_one, hns j hjl]; simp) _ _ _ _ _ _ _ _ _ _ _ _ _ _ _ _ _ _ _ hF
set_option maxRecDepth 100000 in
set_option maxHeartbeats 4000000 in
/-- ████ all ████ -/
theorem allA (hlg : Lg < Wb.heap.size) (hmp : Mp < Wb.heap.size) (nLM : Mp ≠ Lg) (hS : ∀ b, S b → b < Wb.heap.size) (nS : ¬ S Lg) (hM : MpAt Mp Wb lm) (hv : vs.length = ns.length) (hn : ns.length ≤ 1000) (hns : ∀ j, j < ns.length → ns[j]? = some (j : Int))
    (hLook : ∀ (j : Nat) (n v : Int), ns[j]? = some n → vs[j]? = some v → look lm n = some v) (hk0 : b₀.kind ≠ .early)
    (hT : ∀ B w, Kp Wb Lg Mp ns.length 0 [(B, .cells (vs.map (Value.int .i64)).toArray 2 (0, 0))] w → RTS Try.prog Q S 0 (G (b₀.at (a₀.put ((ops₀[i₀]?).bind (·.dst)) (.slice (some ⟨B, 0, none⟩) ns.length ns.length)) (.inRegion ops₀ rest₀ :: k₀)) cs) w) :
    ∀ w, Kp Wb Lg Mp ns.length 0 [] w → RTS Try.prog Q S 0 (G ((base 64).at ⟨#[.pointer (some ⟨Lg, 0, none⟩), undef, undef, undef, undef, undef, undef, undef, undef, undef, undef, undef, undef, undef, undef, undef, undef, undef, undef, undef, undef, undef, undef], []⟩ [.code body64]) (b₀.at a₀ (.inRegion ops₀ (i₀ :: rest₀) :: k₀) :: cs)) w := by
  intro w hF
  have hHead := headA (Q := Q) (b₀ := b₀) (a₀ := a₀) (ops₀ := ops₀) (i₀ := i₀) (rest₀ := rest₀) (k₀ := k₀) (cs := cs) hlg hmp nLM hS nS hM hv hn hns hLook hk0 hT
  simp only [L64, R64, loopOf, sndS, body64, Try.f64, Option.getD_some] at hHead
  simp only [body64, Try.f64, Option.getD_some]
  refine RTS.goes 60 _ _ ?_
  repeat w_go (atl Kp.at)
  u_call Try.func91 nm91 Try.f91 (atl Kp.at) hF
  repeat w_go (atl Kp.at)
  refine Goes.stop (fun w r => ?_)
  replace hF := atl Kp.at hF r
  clear r
  refine RTS.step rfl fun dd => ⟨_, _, _, stepG_load_atomic rfl rfl (by k_ne) rfl Try.func100 x100_n x100_b x100_x .i64 x100_f (ad := ⟨Lg, 3, none⟩) (v := (ns.length : Int)) rfl (by have := hF.lg; simp [World.cell?, World.at, this]), (by intro x hx; simp at hx; subst hx; exact evN_cell nS), ?_⟩
  show RTS Try.prog Q S 0 _ _
  replace hF := Kp.at _ dd hF
  refine RTS.goes 60 _ _ ?_
  walk_nrm
  repeat w_go (atl Kp.at)
  u_leave1 Try.func91 (atl Kp.at) hF
  refine Goes.stop (fun w r => ?_)
  replace hF := atl Kp.at hF r
  clear r
  refine RTS.step rfl fun d2 => ?_
  obtain ⟨cur, hcs, hm1, hm2⟩ := run_makeN (w := w.at d2) (n := ns.length) (by omega)
  refine ⟨_, _, _, stepG_makeNN rfl rfl (by k_ne) rfl rfl hm1 hm2, (by simp), ?_⟩
  show RTS Try.prog Q S 0 _ _
  replace hF := (Kp.at _ d2 hF).alloc hlg (.cells cur 2 (0, 0))
  clear hm1 hm2
  generalize (w.at d2).heap.size = B at hF ⊢
  generalize (w.at d2).alloc (.cells cur 2 (0, 0)) = w at hF ⊢
  refine RTS.goes 60 _ _ ?_
  walk_nrm
  repeat (w_but "code.loop" (atl Kp.at))
  u_c stepG_loop (atl Kp.at) hF
  refine Goes.stop (fun w r => ?_)
  replace hF := atl Kp.at hF r
  clear r
  exact hHead ns.length B cur 0 hcs (by omega) (by simp) _ _ _ _ _ _ _ _ _ _ _ _ _ _ _ _ _ _ _ hF
end
end Go.Proofs.Ytpmmimcafkillaa.Tr
