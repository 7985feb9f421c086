/-
  A list's clips from the last to the first: the library's iterator; lists mirrored: the program's contract.
-/
import Derived.Test.YtioaehjppiodfaaGreatDoorGBgl
import Derived.Test.YtioaehjppiodfaaGreatDoorGAdds
namespace Go.Proofs.YtioaehjppiodfaaGreatDoor
open Go.RowKit Go.Shelf
set_option linter.unusedVariables false
set_option linter.unusedSimpArgs false

theorem wpListIn_lies {F : Fence} {n : Nat} {P : Program} (w : World) {ops : Array Oper} {rest : List Oper} {o : Oper} {a : Act} {Q : Exit → Act → World → Prop}
    (hg : o.guard = none) (s x : Operand) (t : TypeId) (hop : o.op = Op.call { callee := Callee.builtin Builtin.append, args := #[s, x], argTypes := #[t, t] })
    (base : Nat) (e : TypeId) (i : TypeInfo) (z : Value) (size bytes : Nat) (h1 : P.underlying t = some (.slice e)) (h2 : P.info? e = some i) (h3 : i.zero = some z) (h4 : i.size = size) (h5 : i.bytes = bytes) (h6 : z.cells.size = size) (h7 : 0 < size)
    (v : Value) (k : Nat) (xs : List Value) (hs : a.eval s = v) (hown : w.ownsRow base e size v k xs) (ad : Addr) (m c : Nat) (news : List Value) (hx : a.eval x = .slice (some ad) m c) (hn : news.length = m * size)
    (hc : ∀ j u, news[j]? = some u → w.cell? (ad.add j) = some u) (h1c : ∀ u ∈ news, u.oneCell' = true) (hm : 0 < m) (b1 : k + m ≤ maxLen) (b2 : (k + m) * bytes ≤ 140737488355328) (b3 : base ≤ w.heap.size)
    (hK : ∀ g cap w', w'.ownsRow base e size (.slice (some ⟨g, 0, none⟩) (k + m) cap) (k + m) (xs ++ news) → w.grownBy w' v.ownBlock → (v.ownBlock = some g ∨ g = w.heap.size) → wpListIn F n P ops Q rest (a.put o.dst (.slice (some ⟨g, 0, none⟩) (k + m) cap)) w') :
    wpListIn F n P ops Q (o :: rest) a w := by
  refine wpListIn_plain hg fun K hK' => ?_
  obtain ⟨g, cap, w', hrun, r1, r2, r3, r4⟩ := run_append_lies (P := P) w t o.type base e i z size bytes h1 h2 h3 h4 h5 h6 h7 v k xs hown ad m c news hn hc h1c hm b1 b2 b3 w.heap.size rfl
  unfold Oper.wpIn
  refine ⟨?_, ?_⟩
  · simp [Oper.about, hop, resolve, Target.leads, Sem.run_pure]
  · rw [Oper.semAt_plain F _ _ (by rw [hop]; intro c hc'; cases hc')]
    simp [execOp, hop, resolve, invoke, builtin, hs, hx, hrun, Result.andThen]
    exact hK' _ _ (hK g cap w' r1 r2 r3)
attribute [local go_sem] Oper.semAt_some

/-- the blocks that p names lie as they lay -/
def KeepP (p : Nat → Prop) (W W' : World) : Prop := W.heap.size ≤ W'.heap.size ∧ ∀ (k : Nat) (o : Obj), p k → W.heap[k]? = some o → W'.heap[k]? = some o
theorem KeepP.trans {p : Nat → Prop} {X Y Z : World} (h : KeepP p X Y) (k : KeepP p Y Z) : KeepP p X Z := ⟨Nat.le_trans h.1 k.1, fun i o hp hi => k.2 i o hp (h.2 i o hp hi)⟩
theorem KeepP.cell {p : Nat → Prop} {X Y : World} {b o : Nat} {v : Value} (h : KeepP p X Y) (hb : p b) (hc : X.cell? ⟨b, o, none⟩ = some v) : Y.cell? ⟨b, o, none⟩ = some v := by
  obtain ⟨x, hx, hcx⟩ := cells_of_cell hc
  exact (World.cell?_of_block (a := ⟨b, o, none⟩) ((h.2 b x hb hx).trans hx.symm)).trans hc
def bwv (l : List Kl) (k : Nat) : Array Value := #[.int .i64 ((l.length : Int) - 1 - k), .agg #[.int .i64 (kAt l (l.length - 1 - k)).1, .int .i64 (kAt l (l.length - 1 - k)).2.1, .int .i64 (kAt l (l.length - 1 - k)).2.2]]

set_option maxRecDepth 100000 in
set_option maxHeartbeats 4000000 in
theorem backward_in (n l0 n₀ Bs : Nat) (a : Option Addr) (cap : Nat) (l : List Kl) (hl : l.length ≤ 300) (w0 W : World) (hn₀ : n₀ = w0.heap.size) (hk : Kls w0 a l) (hWk : Below n₀ w0 W) (hBs : W.cell? ⟨Bs, 0, none⟩ = some (.slice a l.length cap))
    (J Jx : List (Fin l.length) → World → Prop)
    (hY : ∀ pre x W1, J pre W1 → pre.length < l.length → YieldAt Fence.wide (n - 1) Tryz.prog l0 (bwv l x.1) W1 fun e W' =>
      (e = .returned (.bool true) ∧ J (pre ++ [x]) W' ∧ KeepP (fun k => k < n₀ ∨ k = Bs) W1 W') ∨ (e = .returned (.bool false) ∧ Jx (pre ++ [x]) W'))
    (h0 : J [] W) :
    CallsIn Fence.wide n Tryz.prog 153 #[.func (.yield l0) #[] #[], .pointer (some ⟨Bs, 0, none⟩)] W fun e W' => (∃ v, e = .returned v) ∧ ((∃ xs, xs = List.finRange l.length ∧ J xs W') ∨ (∃ pre, (∃ k, k ≤ l.length ∧ pre = (List.finRange l.length).take k) ∧ Jx pre W')) := by
  refine callsIn_of_wp Tryz.func153 rfl trivial ?_ rfl
  simp only [Tryz.ntmps153, List.size_toArray, List.length_cons, List.length_nil, Nat.reduceAdd, Nat.reduceSub, Array.replicate_succ, Array.replicate_zero, List.push_toArray, List.append_toArray, List.nil_append, List.cons_append]
  have hk' := hide hk
  have hY' := hide hY
  have h0' := hide h0
  have hKP := hide (show ∀ b o v, b < n₀ → w0.cell? ⟨b, o, none⟩ = some v → W.cell? ⟨b, o, none⟩ = some v from fun b o v hb hc => (hWk.cell (p := ⟨b, o, none⟩) hb).trans hc)
  clear hk hY h0 hWk
  gi_wp2
  gi_loopw [3] (fun i wr => ∃ (k : Nat) (j : Int), k ≤ l.length ∧ i = .int .i64 j ∧ Hid (j = (l.length : Int) - 1 - k) ∧ Hid (J ((List.finRange l.length).take k) wr) ∧ wr.cell? ⟨Bs, 0, none⟩ = some (.slice a l.length cap) ∧ Hid (∀ b o v, b < n₀ → w0.cell? ⟨b, o, none⟩ = some v → wr.cell? ⟨b, o, none⟩ = some v))
    (fun i _ => (intOf i + 1).toNat)
  case atStart => exact ⟨0, _, Nat.zero_le _, rfl, hide (by simp), hide (by simpa using unhide h0'), hBs, hKP⟩
  case round =>
    clear h0' hBs hKP
    obtain ⟨k, j, hkl, rfl, hj, hJs, hBs, hKP⟩ := hrel
    by_cases hlt : k < l.length
    · obtain ⟨I, hI⟩ : ∃ I : Nat, j = I := ⟨l.length - 1 - k, by have := unhide hj; omega⟩
      subst hI
      have hIe : I = l.length - 1 - k := by have := unhide hj; omega
      have hIl : I < l.length := by omega
      obtain ⟨⟨x1, x2, x3⟩, hx⟩ : ∃ x, l[I]? = some x := ⟨l[I], List.getElem?_eq_getElem hIl⟩
      obtain ⟨b, o, rfl, hb, c0, c1, c2⟩ := unhide hk' I _ hx
      have d0 := unhide hKP b _ _ (by omega) c0
      have d1 := unhide hKP b _ _ (by omega) c1
      have d2 := unhide hKP b _ _ (by omega) c2
      simp only at d0 d1 d2
      obtain ⟨fn, tmps, assign, body, hy, hR⟩ := (unhide hY') _ ⟨k, hlt⟩ wr (unhide hJs) (by rw [List.length_take, List.length_finRange]; omega)
      have hpv : bwv l k = #[.int .i64 (I : Int), .agg #[.int .i64 x1, .int .i64 x2, .int .i64 x3]] := by
        unfold bwv
        rw [← hIe, kAt_eq hx]
        have : (l.length : Int) - 1 - (k : Int) = (I : Int) := by omega
        rw [this]
      have hy' : (Instr.yield l0 #[.int .i64 (I : Int), .agg #[.int .i64 x1, .int .i64 x2, .int .i64 x3]]).run Tryz.prog wr = .ok (.round l0 fn tmps assign body) wr := by rw [← hpv]; exact hy
      have hIe' := hide hIe
      clear hy hx hpv c0 c1 c2 hj hIe
      gi_wp2_with fail
      refine ⟨fun h => by simp [Fence.wide] at h, hR.mono ?_⟩
      rintro e W3 (⟨rfl, hJ3, hk3⟩ | ⟨rfl, hJx3⟩)
      · have hB3 := hk3.cell (.inr rfl) hBs
        have hKP3 := hide (fun b' o' v' (hb' : b' < n₀) hc' => hk3.cell (.inl hb') (unhide hKP b' o' v' hb' hc'))
        have hJ3' := hide hJ3
        clear d0 d1 d2 hy' hR hJs hKP hJ3 hk3 hBs
        gi_wp2
        go_roundw
        case rel => exact ⟨k + 1, (I : Int) - 1, by omega, by go_num, hide (by have := unhide hIe'; omega), hide (by rw [fin_take hlt]; exact unhide hJ3'), hB3, hKP3⟩
        case measure => first | (simp [intOf]; done) | (simp [intOf]; omega)
      · gi_wp2
        refine bodyPost_ret (results_none rfl _ _ _) rfl ?_
        exact ⟨⟨_, rfl⟩, .inr ⟨_, ⟨k + 1, by omega, (fin_take hlt).symm⟩, hJx3⟩⟩
    · have hke : k = l.length := by omega
      have hj2 : j = -1 := by have := unhide hj; omega
      subst hj2
      gi_wp2
      go_end0
      refine ⟨⟨_, rfl⟩, .inl ⟨_, rfl, ?_⟩⟩
      have := unhide hJs
      rw [hke, List.take_of_length_le (by simp)] at this
      exact this

theorem backward_stops (n n₀ Bs : Nat) (a : Option Addr) (cap : Nat) (l : List Kl) (hl : l.length ≤ 300) (w0 w : World) (hn₀ : n₀ = w0.heap.size) (hk : Kls w0 a l) (hWk : Below n₀ w0 w) (hBl : Bs < w.heap.size) (hBs : w.cell? ⟨Bs, 0, none⟩ = some (.slice a l.length cap)) :
    SeqStopsK Fence.wide n Tryz.prog 153 #[.pointer (some ⟨Bs, 0, none⟩)] (fun x : Fin l.length => bwv l x.1) (KeepP (fun k => k < n₀ ∨ k = Bs)) (fun xs => xs = List.finRange l.length) (fun pre => ∃ k, k ≤ l.length ∧ pre = (List.finRange l.length).take k) l.length w :=
  fun l0 J Jx W hW hJ hJx hY h0 => backward_in n l0 n₀ Bs a cap l hl w0 W hn₀ hk (hWk.trans (hW.mono (by have := hWk.size; omega))) ((hW.cell (p := ⟨Bs, 0, none⟩) hBl).trans hBs) J Jx hY h0

set_option maxHeartbeats 1000000 in
theorem backward_any (a : Option Addr) (len cap : Nat) (w : World) :
    Calls Tryz.prog 134 #[.slice a len cap] w fun e w' => e = .returned (.func (.func 153) #[] #[.pointer (some ⟨w.heap.size, 0, none⟩)]) ∧ w' = w.alloc (.cells #[.slice a len cap] 78) := by
  go_enter Tryz.func134, Tryz.ntmps134
  go_wp2
  go_ret
  exact ⟨rfl, rfl⟩

theorem wpListIn_k {F : Fence} {n' : Nat} {T : TypeId} (hT : Tryz.prog.underlying T = some (.slice 94)) {ops : Array Oper} {rest : List Oper} {o : Oper} {a : Act} {Q : Exit → Act → World → Prop} (w : World) (hgd : o.guard = none) (s x : Operand) (ho : o.op = .call { callee := .builtin .append, args := #[s, x], argTypes := #[T, T] })
    (B g n cap : Nat) (L : List Kl) (v : Kl) (hs : a.eval s = .slice (some ⟨g, 0, none⟩) n cap) (hown : Own w B g n cap L) (E : Nat) (hx : a.eval x = .slice (some ⟨E, 0, none⟩) 1 1)
    (hblk : w.heap[E]? = some (.cells #[.int .i64 v.1, .int .i64 v.2.1, .int .i64 v.2.2] 94 (0, 0))) (hl : n ≤ 1000000) (hB : B ≤ w.heap.size)
    (h : ∀ g' cap' w', Own w' B g' (n + 1) cap' (L ++ [v]) → w.grownBy w' (some g) → (g' = g ∨ g' = w.heap.size) → wpListIn F n' Tryz.prog ops Q rest (a.put o.dst (.slice (some ⟨g', 0, none⟩) (n + 1) cap')) w') : wpListIn F n' Tryz.prog ops Q (o :: rest) a w := by
  obtain ⟨i0, hi, hz0, hz1, hz2⟩ := info_parts info44
  refine wpListIn_lies w hgd s x T ho B 94 i0 (.agg #[.int .i64 0, .int .i64 0, .int .i64 0]) 3 24 hT hi hz0 hz1 hz2 rfl (by decide) _ n (flK L) hs hown ⟨E, 0, none⟩ 1 1 [iv v.1, iv v.2.1, iv v.2.2] hx rfl (K_news hblk) (by intro u hu; simp at hu; rcases hu with rfl | rfl | rfl <;> rfl) (by decide) (by unfold maxLen; omega) (by omega) hB ?_
  intro g' cap' w' h1 h2 h3
  exact h g' cap' w' (by show World.ownsRow _ _ _ _ _ _ _; rw [flK_append]; exact h1) (by simpa [Value.ownBlock] using h2) (Or.imp (fun h3 => by simp [Value.ownBlock] at h3; exact h3.symm) id h3)

theorem mir_fin (l : List Kl) : (List.finRange l.length).map (fun x => mirK (kAt l (l.length - 1 - x.1))) = mir l := by
  apply List.ext_getElem
  · simp [mir]
  · intro i h1 h2
    have hi : i < l.length := by simpa using h1
    have hg : (mir l)[i]? = some (mirK (kAt l (l.length - 1 - i))) := mir_get hi (kAt_get (by omega))
    rw [List.getElem?_eq_getElem h2] at hg
    injection hg with hg
    rw [hg]
    simp

set_option maxRecDepth 100000 in
set_option maxHeartbeats 12800000 in
theorem mirrored_any (a : Option Addr) (ca : Nat) (l : List Kl) (w : World) (hT : TOk l) (hk : Kls w a l) :
    Calls Tryz.prog 115 #[.slice a l.length ca] w fun e w' => ∃ g c, e = .returned (.slice (some ⟨g, 0, none⟩) (mir l).length c) ∧ w.heap.size ≤ g ∧ Own w' w.heap.size g (mir l).length c (mir l) ∧ Below w.heap.size w w' := by
  have hk' := hide hk
  have hT' := hide hT
  have hlT : l.length ≤ 300 := hT.1
  have hA := hide hT.2.1
  clear hk hT
  refine (callsIn_wide (n := 3)).1 ?_
  refine callsIn_of_wp_marks Tryz.func115 rfl trivial ?_ rfl
  simp only [Tryz.ntmps115, List.size_toArray, List.length_cons, List.length_nil, Nat.reduceAdd, Nat.reduceSub, Array.replicate_succ, Array.replicate_zero, List.push_toArray, List.append_toArray, List.nil_append, List.cons_append]
  refine wpIn_wide.2 ?_
  go_wp2_with fail
  refine (backward_any a l.length ca _).mono ?_
  rintro e w2 ⟨rfl, rfl⟩
  go_wp2_with fail
  obtain ⟨M, hM⟩ : ∃ M, M = w.heap.size + 1 := ⟨_, rfl⟩
  obtain ⟨Bs, hBs⟩ : ∃ Bs, Bs = w.heap.size + 1 + 1 := ⟨_, rfl⟩
  obtain ⟨W0, hW0⟩ : ∃ W0, ((w.alloc (.cells #[] 94)).alloc (.cells #[.slice (some ⟨w.heap.size, 0, none⟩) 0 0] 78)).alloc (.cells #[.slice a l.length ca] 78) = W0 := ⟨_, rfl⟩
  have hz0 : W0.heap.size = w.heap.size + 3 := by rw [← hW0]; simp
  have iB0 : Below w.heap.size w W0 := by rw [← hW0]; exact (((Below.refl _ w).alloc (Nat.le_refl _) _).alloc (by simp) _).alloc (by simp; omega) _
  have iM0 : Boxed W0 M 78 (.slice (some ⟨w.heap.size, 0, none⟩) 0 0) := by
    rw [← hW0, hM]
    have := Boxed.new (w.alloc (.cells #[] 94)) 78 (.slice (some ⟨w.heap.size, 0, none⟩) 0 0)
    rw [World.size_alloc] at this
    exact this.alloc _
  have iS0 : Boxed W0 Bs 78 (.slice a l.length ca) := by
    rw [← hW0, hBs]
    have := Boxed.new ((w.alloc (.cells #[] 94)).alloc (.cells #[.slice (some ⟨w.heap.size, 0, none⟩) 0 0] 78)) 78 (.slice a l.length ca)
    rw [World.size_alloc, World.size_alloc] at this
    exact this
  have iO0 : Own W0 w.heap.size w.heap.size 0 0 [] := by
    rw [← hW0]
    exact own_blk (own_blk (own_lit0 w (Nat.le_refl _)) ((Below.refl _ _).alloc (Nat.le_refl _) _) (by simp)) ((Below.refl _ _).alloc (Nat.le_refl _) _) (by simp; omega)
  rw [hW0, ← hBs, ← hM]
  have hMW : M < W0.heap.size := by omega
  have hBW : Bs < W0.heap.size := by omega
  have hMB : M < Bs := by omega
  have hsM : w.heap.size < M := by omega
  have hsW0 : w.heap.size < W0.heap.size := by omega
  obtain ⟨G, hG⟩ : ∃ G, G = w.heap.size := ⟨_, rfl⟩
  rw [← hG]
  rw [← hG] at iM0
  have iO0' : Own W0 w.heap.size G 0 0 [] := by rw [hG]; exact iO0
  have hGs : w.heap.size ≤ G := by omega
  generalize hs0e : w.heap.size = s0 at *
  clear hM hBs hz0 hW0 hG iO0
  refine (wpIn_wide (n := 3)).1 ?_
  refine wpIn_rangeFunc_ownH (F := Fence.wide) (w := W0) rfl (by omega) (gf := 153) (lb := #[.pointer (some ⟨Bs, 0, none⟩)]) rfl trivial (enters_of Tryz.func153 (by kernel_rfl) rfl)
    (backward_stops 2 s0 Bs a ca l hlT w W0 hs0e.symm (unhide hk') iB0 hBW iS0.cell) (fun h k => KeepP.trans h k)
    (fun W1 l1 o o' hl1 ho _ _ => ⟨by simp, fun k x hp hx => by refine (World.putObj_heap_other ?_).trans hx; rcases hp with hp | hp <;> omega⟩) (Below.refl _ _) (fun _ => rfl)
    (fun pre W => (∃ r cap, Boxed W M 78 (.slice (some ⟨r, 0, none⟩) pre.length cap) ∧ Own W s0 r pre.length cap (pre.map (fun x => mirK (kAt l (l.length - 1 - x.1))))) ∧ Boxed W Bs 78 (.slice a l.length ca) ∧ Below s0 w W)
    (fun _ _ _ => False)
    (fun s X Y row h hg hr => by
      obtain ⟨⟨r, cap, h1, h2⟩, h3, h4⟩ := h
      have hrB : r ≠ W0.heap.size ∨ True := .inr trivial
      refine ⟨⟨r, cap, boxed_ab h1 hg (turn_of hr) (by omega), ?_⟩, boxed_ab h3 hg (turn_of hr) (by omega), below_ab h4 (by omega) hg (turn_of hr) (by omega) (by omega)⟩
      exact row_ab (B := W0.heap.size) (b := X.heap.size) h2 hg (fun k e => .inr (hr k e)) (by have := own_lt h2; omega))
    (fun _ _ _ _ _ hs _ _ => hs)
    ⟨⟨G, 0, by simpa using iM0, by simpa using iO0'⟩, iS0, iB0⟩
    (fun x a' W => ∃ Cx v, M < Cx ∧ Bs < Cx ∧ W.heap[Cx]? = some (.cells #[.int .i64 (kAt l (l.length - 1 - x.1)).1, .int .i64 (kAt l (l.length - 1 - x.1)).2.1, .int .i64 (kAt l (l.length - 1 - x.1)).2.2] 94 (0, 0)) ∧ Boxed W M 78 v ∧ v.ownBlock ≠ some Cx ∧ a' = { tmps := #[.slice a l.length ca, undef, .slice none 0 0, .pointer (some ⟨M, 0, none⟩), undef, .pointer (some ⟨Cx, 0, none⟩), .slice (some ⟨G, 0, none⟩) 0 0, .slice a l.length ca, .func (.func 153) #[] #[.pointer (some ⟨Bs, 0, none⟩)], .int .i64 ((l.length : Int) - 1 - x.1), .agg #[.int .i64 (kAt l (l.length - 1 - x.1)).1, .int .i64 (kAt l (l.length - 1 - x.1)).2.1, .int .i64 (kAt l (l.length - 1 - x.1)).2.2], undef, undef, undef, undef, undef, undef, undef, undef, undef, undef, undef, undef, undef, undef, undef], defers := [] })
    (fun x a' s X Y row h hg hr => by
      obtain ⟨Cx, v, e1, e2, e3, e4, e5, e6⟩ := h
      exact ⟨Cx, v, e1, e2, blk_ab (b := M) e3 rfl hg (fun k e => .inr (hr k e)) (by omega), boxed_ab e4 hg (turn_of hr) (by omega), e5, e6⟩)
    ?assign ?body ?done ?stop
  case assign =>
    rintro l1 pre x W K ⟨⟨r, cap, i1, i2⟩, i3, i4⟩ hK
    obtain ⟨⟨c1, c2, c3⟩, hc⟩ : ∃ c, kAt l (l.length - 1 - x.1) = c := ⟨_, rfl⟩
    obtain ⟨jj, hjj⟩ : ∃ jj, jj = (l.length : Int) - 1 - x.1 := ⟨_, rfl⟩
    have hMl := i1.lt
    have hBl := i3.lt
    have hrl := own_lt i2
    have hK' := hide hK
    have i1' := hide i1
    have i2' := hide i2
    have i3' := hide i3
    simp only [bwv, hc]
    rw [hc] at hK'
    rw [← hjj] at hK' ⊢
    simp only at hK'
    clear hK i1 i2 i3 hc hjj
    gi_wp2
    exact unhide hK' _ _ ((KeepsOthers.alloc _ _).from _) ⟨by simp, fun k o _ hk9 => (Below.heap_alloc W _ k (Array.getElem?_eq_some_iff.1 hk9).1).trans hk9⟩ ⟨⟨r, cap, (unhide i1').alloc _, ownsRow_below (unhide i2') ((Below.refl _ W).alloc (Nat.le_refl _) _)⟩, (unhide i3').alloc _, i4.alloc (by have := i4.size; omega) _⟩ ⟨W.heap.size, _, hMl, hBl, World.alloc_heap_new W _, (unhide i1').alloc _, by simp [Value.ownBlock]; omega, rfl⟩
  case body =>
    rintro l1 pre x a' W hl1 _ ⟨⟨r, cap, iM, iO⟩, iS, iB⟩ ⟨Cx, v, hMC, hBC, hblk, hbM, hvb, rfl⟩ hlt
    have hve : v = .slice (some ⟨r, 0, none⟩) pre.length cap := by
      have h9 : W.heap[M]? = some (.cells #[v] 78 (0, 0)) := hbM
      rw [show W.heap[M]? = _ from iM] at h9
      injection h9 with h9
      injection h9 with h9 _ _
      simpa using h9.symm
    have hrC : r ≠ Cx := by intro e; apply hvb; rw [hve, e]; rfl
    have hrB : r ≠ Bs := fun e => own_ne iO iS (by decide) e.symm
    have hcx := kAt_ok (unhide hA) (show l.length - 1 - x.1 < l.length by have := x.2; omega)
    have hmp : ∀ k, mirK (kAt l (l.length - 1 - x.1)) = k → (pre ++ [x]).map (fun x => mirK (kAt l (l.length - 1 - x.1))) = pre.map (fun x => mirK (kAt l (l.length - 1 - x.1))) ++ [k] := fun k hk9 => by rw [List.map_append]; simp [hk9]
    obtain ⟨L, hL⟩ : ∃ L, L = pre.map (fun x => mirK (kAt l (l.length - 1 - x.1))) := ⟨_, rfl⟩
    rw [← hL] at iO hmp
    obtain ⟨⟨c1, c2, c3⟩, hc⟩ : ∃ c, kAt l (l.length - 1 - x.1) = c := ⟨_, rfl⟩
    obtain ⟨jj, hjj⟩ : ∃ jj, jj = (l.length : Int) - 1 - x.1 := ⟨_, rfl⟩
    rw [hc] at hcx hblk hmp
    rw [hc, ← hjj]
    obtain ⟨u1, u2, u3, u4, u5⟩ := hcx
    simp only at u1 u2 u3 u4 u5 hblk
    have hMl := iM.lt
    have hCl : Cx < W.heap.size := (Array.getElem?_eq_some_iff.1 hblk).1
    have hsW := iB.size
    have hrs := own_ge iO
    obtain ⟨d0, d1, d2⟩ := blk3' hblk
    have iM' := hide iM
    have iO' := hide iO
    have iS' := hide iS
    have iB' := hide iB
    have hblk' := hide hblk
    have hmp' := hide hmp
    have hpl : pre.length ≤ 300 := by omega
    clear iM iO iS iB hblk hmp hve hvb hbM hc hjj hL
    by_cases hz : c1 = 0
    · have hgp := hide (show decide (c1 = 0) = true by simpa using hz)
      have hz' := hide hz
      clear hz
      gi_wp2_with fail
      refine ⟨trivial, CallsIn.mono (CallsIn.inRound l1 (callsIn_wide.2 (gap_any c1 c2 c3 true _ (unhide hgp)))) ?_⟩
      rintro e w1 ⟨rfl, hb1⟩
      have bM1 : Boxed w1 M 78 _ := (hb1.block M hMl).trans (unhide iM')
      have bC1 := (hb1.block Cx hCl).trans (unhide hblk')
      obtain ⟨z0, z1, z2⟩ := blk3' bC1
      have iM1 := bM1
      have iO1 := ownsRow_below (unhide iO') hb1
      have iB1 : Below s0 w w1 := (unhide iB').trans (hb1.mono (by omega))
      have hF9 : ∀ c o, W.heap[c]? = some o → c ≠ Cx → w1.heap[c]? = some o := fun c o hc _ => (hb1.block c (Array.getElem?_eq_some_iff.1 hc).1).trans hc
      have hKO : KeepsOthers W w1 := keepOthers_below hb1
      have hsz1 : W.heap.size ≤ w1.heap.size := hb1.size
      obtain ⟨X1, hX1⟩ : ∃ X1, X1 = w1 := ⟨_, rfl⟩
      rw [← hX1] at iM1 iO1 iB1 hF9 hKO hsz1
      have kX : Below X1.heap.size X1 (X1.alloc (.cells #[.int .i64 c1, .int .i64 c2, .int .i64 c3] 94)) := (Below.refl _ X1).alloc (Nat.le_refl _) _
      have iOX := hide (ownsRow_below iO1 kX)
      have hXn := hide (World.alloc_heap_new X1 (.cells #[.int .i64 c1, .int .i64 c2, .int .i64 c3] 94))
      have kX' := hide kX
      have iM1' := hide iM1
      have iO1' := hide iO1
      have iB1' := hide iB1
      have hF9' := hide hF9
      have hKO' := hide hKO
      have cMX := iM1.cell
      have hsX := iB1.size
      clear kX iM1 iO1 iB1 hF9 hKO hb1 bC1 
      subst hX1
      clear bM1
      gi_wp2_with (gi_at_builtin; refine wpListIn_k Tryz.underlying78 _ rfl _ _ rfl s0 r pre.length cap L (c1, c2, c3) rfl (unhide iOX) _ rfl (unhide hXn) (by omega) (by simp; omega) ?_)
      intro g' cap' w4 n4 k4 hg4
      have n4' : Own w4 s0 g' (pre.length + 1) cap' (L ++ [(c1, c2, c3)]) := n4
      obtain ⟨F1, F2, F3, F4, F5, F6, F7, F8⟩ := app_fin (bb := Bs) (t := 78) (by decide) (unhide iM1') (unhide iO1') (unhide iB1') hs0e.symm (by omega) (by omega) hrB (unhide kX') n4' k4 (hg4.imp id (fun h => by rw [h]; simp [World.setCell]))
      have fc4 := F1.cell
      have ff4 := F1.frozen
      obtain ⟨w5, hw5⟩ : ∃ w5, w5 = w4.setCell ⟨M, 0, none⟩ (.slice (some ⟨g', 0, none⟩) (pre.length + 1) cap') := ⟨_, rfl⟩
      rw [← hw5] at F2 F3 F4 F5 F6 F8
      have hfin := hide (show KeepsFrom W0.heap.size W w5 ∧ KeepP (fun k => k < s0 ∨ k = Bs) W w5 ∧ (∃ r cap, Boxed w5 M 78 (.slice (some ⟨r, 0, none⟩) (pre ++ [x]).length cap) ∧ Own w5 s0 r (pre ++ [x]).length cap ((pre ++ [x]).map (fun x => mirK (kAt l (l.length - 1 - x.1))))) ∧ Boxed w5 Bs 78 (.slice a l.length ca) ∧ Below s0 w w5 from by
        have hm9 := unhide hmp' (c1, c2, c3) (by simp [mirK, unhide hz'])
        refine ⟨((unhide hKO').trans F2).from _, ⟨((unhide hKO').trans F2).size, fun k o hp9 hk9 => ?_⟩, ⟨g', cap', by simpa using F4, by rw [hm9]; simpa using F5⟩, ?_, F6⟩
        · exact F8 k o (unhide hF9' k o hk9 (by rcases hp9 with h | h <;> omega)) (by rcases hp9 with h | h <;> omega) (by rcases hp9 with h | h <;> omega)
        · exact F8 Bs _ (unhide hF9' Bs _ (unhide iS') (by omega)) (by omega) (fun h => hrB h.symm))
      have hw5' := hide hw5
      clear F1 F2 F3 F4 F5 F6 F7 F8 n4 n4' k4 hg4 hw5
      gi_wp2
      have h9 := unhide hfin
      rw [unhide hw5'] at h9
      exact h9
    · have hgp := hide (show decide (c1 = 0) = false by simpa using hz)
      have hz' := hide hz
      clear hz
      gi_wp2_with fail
      refine ⟨trivial, CallsIn.mono (CallsIn.inRound l1 (callsIn_wide.2 (gap_any c1 c2 c3 false _ (unhide hgp)))) ?_⟩
      rintro e w1 ⟨rfl, hb1⟩
      have bM1 : Boxed w1 M 78 _ := (hb1.block M hMl).trans (unhide iM')
      have bC1 := (hb1.block Cx hCl).trans (unhide hblk')
      obtain ⟨z0, z1, z2⟩ := blk3' bC1
      have zf : w1.frozen? ⟨Cx, 1, none⟩ = false := by simp [World.frozen?, bC1]
      have cM1 := bM1.cell
      have iM1 : Boxed (w1.setCell ⟨Cx, 1, none⟩ (.int .i64 (10000000 - c2 - c3))) M 78 (.slice (some ⟨r, 0, none⟩) pre.length cap) := (Below.heap_setCell w1 ⟨Cx, 1, none⟩ _ M (by simp; omega)).trans bM1
      have iO1 : Own (w1.setCell ⟨Cx, 1, none⟩ (.int .i64 (10000000 - c2 - c3))) s0 r pre.length cap L := own_kept (ownsRow_below (unhide iO') hb1) (grown_set (grown_refl w1 (some Cx))) hrC
      have iB1 : Below s0 w (w1.setCell ⟨Cx, 1, none⟩ (.int .i64 (10000000 - c2 - c3))) := ((unhide iB').trans (hb1.mono (by omega))).setCell (p := ⟨Cx, 1, none⟩) (by simp; omega) _
      have hF9 : ∀ c o, W.heap[c]? = some o → c ≠ Cx → (w1.setCell ⟨Cx, 1, none⟩ (.int .i64 (10000000 - c2 - c3))).heap[c]? = some o := fun c o hc hne => by rw [Below.heap_setCell w1 ⟨Cx, 1, none⟩ _ c hne]; exact (hb1.block c (Array.getElem?_eq_some_iff.1 hc).1).trans hc
      have hKO : KeepsOthers W (w1.setCell ⟨Cx, 1, none⟩ (.int .i64 (10000000 - c2 - c3))) := (keepOthers_below hb1).trans (KeepsOthers.setCell _ _ _)
      have hsz1 : W.heap.size ≤ (w1.setCell ⟨Cx, 1, none⟩ (.int .i64 (10000000 - c2 - c3))).heap.size := hKO.size
      have y0 : (w1.setCell ⟨Cx, 1, none⟩ (.int .i64 (10000000 - c2 - c3))).heap[Cx]? = some (.cells #[.int .i64 c1, .int .i64 (10000000 - c2 - c3), .int .i64 c3] 94 (0, 0)) := by simp [World.setCell, Array.getElem?_modify, bC1]
      obtain ⟨X1, hX1⟩ : ∃ X1, X1 = w1.setCell ⟨Cx, 1, none⟩ (.int .i64 (10000000 - c2 - c3)) := ⟨_, rfl⟩
      rw [← hX1] at iM1 iO1 iB1 hF9 hKO hsz1
      have kX : Below X1.heap.size X1 (X1.alloc (.cells #[.int .i64 c1, .int .i64 (10000000 - c2 - c3), .int .i64 c3] 94)) := (Below.refl _ X1).alloc (Nat.le_refl _) _
      have iOX := hide (ownsRow_below iO1 kX)
      have hXn := hide (World.alloc_heap_new X1 (.cells #[.int .i64 c1, .int .i64 (10000000 - c2 - c3), .int .i64 c3] 94))
      have kX' := hide kX
      have iM1' := hide iM1
      have iO1' := hide iO1
      have iB1' := hide iB1
      have hF9' := hide hF9
      have hKO' := hide hKO
      have cMX := iM1.cell
      have hsX := iB1.size
      clear kX iM1 iO1 iB1 hF9 hKO hb1 bC1 cM1
      obtain ⟨y0', y1', y2'⟩ := blk3' y0
      clear y0
      have hs9 : X1.heap.size = w1.heap.size := by rw [hX1]; simp [World.setCell]
      rw [hs9] at hXn
      have hs8 : s0 ≤ w1.heap.size + 1 := by omega
      subst hX1
      clear bM1 hs9
      gi_wp2_with (gi_at_builtin; refine wpListIn_k Tryz.underlying78 _ rfl _ _ rfl s0 r pre.length cap L (c1, 10000000 - c2 - c3, c3) rfl (unhide iOX) w1.heap.size rfl (unhide hXn) (by omega) (by simpa [World.setCell] using hs8) ?_)
      intro g' cap' w4 n4 k4 hg4
      have n4' : Own w4 s0 g' (pre.length + 1) cap' (L ++ [(c1, 10000000 - c2 - c3, c3)]) := n4
      obtain ⟨F1, F2, F3, F4, F5, F6, F7, F8⟩ := app_fin (bb := Bs) (t := 78) (by decide) (unhide iM1') (unhide iO1') (unhide iB1') hs0e.symm (by omega) (by omega) hrB (unhide kX') n4' k4 (hg4.imp id (fun h => by rw [h]; simp [World.setCell]))
      have fc4 := F1.cell
      have ff4 := F1.frozen
      obtain ⟨w5, hw5⟩ : ∃ w5, w5 = w4.setCell ⟨M, 0, none⟩ (.slice (some ⟨g', 0, none⟩) (pre.length + 1) cap') := ⟨_, rfl⟩
      rw [← hw5] at F2 F3 F4 F5 F6 F8
      have hfin := hide (show KeepsFrom W0.heap.size W w5 ∧ KeepP (fun k => k < s0 ∨ k = Bs) W w5 ∧ (∃ r cap, Boxed w5 M 78 (.slice (some ⟨r, 0, none⟩) (pre ++ [x]).length cap) ∧ Own w5 s0 r (pre ++ [x]).length cap ((pre ++ [x]).map (fun x => mirK (kAt l (l.length - 1 - x.1))))) ∧ Boxed w5 Bs 78 (.slice a l.length ca) ∧ Below s0 w w5 from by
        have hm9 := unhide hmp' (c1, 10000000 - c2 - c3, c3) (by simp [mirK, unhide hz'])
        refine ⟨((unhide hKO').trans F2).from _, ⟨((unhide hKO').trans F2).size, fun k o hp9 hk9 => ?_⟩, ⟨g', cap', by simpa using F4, by rw [hm9]; simpa using F5⟩, ?_, F6⟩
        · exact F8 k o (unhide hF9' k o hk9 (by rcases hp9 with h | h <;> omega)) (by rcases hp9 with h | h <;> omega) (by rcases hp9 with h | h <;> omega)
        · exact F8 Bs _ (unhide hF9' Bs _ (unhide iS') (by omega)) (by omega) (fun h => hrB h.symm))
      have hw5' := hide hw5
      clear F1 F2 F3 F4 F5 F6 F7 F8 n4 n4' k4 hg4 hw5
      gi_wp2
      have h9 := unhide hfin
      rw [unhide hw5'] at h9
      exact h9
  case done =>
    rintro D xs W hD rfl ⟨⟨r, cap, iM, iO⟩, _, iB⟩ hK
    rw [mir_fin] at iO
    have e9 : (List.finRange l.length).length = (mir l).length := by rw [mir_len]; simp
    rw [e9] at iM iO
    have hgs := own_ge iO
    have cM := iM.cell
    have iO' := hide iO
    have iB' := hide iB
    have hK' := hide hK
    clear iM iO iB hK e9
    obtain ⟨L, hL⟩ : ∃ L, L = mir l := ⟨_, rfl⟩
    rw [← hL] at cM iO'
    have hL' := hide hL
    clear hL
    go_wp2
    refine ⟨by simp, .inl ⟨_, _, rfl, run_takeDeferred (unhide hK'), ?_⟩⟩
    refine ⟨.slice (some ⟨r, 0, none⟩) L.length cap, by simp [results, Tryz.f115, go_sem], r, cap, by rw [unhide hL'], by rw [hs0e]; exact hgs, ?_, ?_⟩
    · rw [hs0e, ← unhide hL']; exact ownsRow_putObj (unhide iO') _ (unhide hK') rfl
    · rw [hs0e]; exact (unhide iB').trans (belowK_b (w := w) (by omega) _ D _ _ (by omega) (unhide hK') rfl rfl)
  case stop =>
    rintro D c pre W hD _ h _
    exact h.elim

end Go.Proofs.YtioaehjppiodfaaGreatDoor
