/-
  The worker: from its birth to its last step.
  greatestSum, in company.
  Lists of numbers in memory: owned rows and lists that are read, and contracts of the law's functions that copy them, hold them against each other, write marks into them and look for these again.
-/
import Derived.Test.YtpmmimcafkillaaZXk
import Derived.Test.YtpmmimcafkillaaZXo
import Derived.Test.YtpmmimcafkillaaProg
import Derived.WalkKit
import Derived.WalkSpells
import Derived.WalkLawsBesides
import Derived.Deep.QuietTactic
import Derived.BigQuiet
import Derived.Deep.RegionHeld3
import Derived.Outline
import Derived.Deep.AppendLies
import Derived.Lib.MinMax
set_option linter.unusedVariables false
set_option linter.unusedSimpArgs false
namespace Go.Proofs.Ytpmmimcafkillaa.Tr
open Go Go.Conc Go.ConcN Go.RowKit Go.Conc.Lib Go.ConcR.Gen Go.ConcM
open Go.ConcR (KK wgBlock WgAt stA smA rd wr mk DC0)
open Go.Proofs.Ytpmmimcafkillaa.Mx
open Go.Proofs.Ytpmmimcafkillaa.Mx (Mu St)
noncomputable def bot59 : Frame := { (default : Frame) with fn := Try.prog.funcs.size, defers := [], mode := .panicking [goexitEntry] }
def call59 (Y : Lay) (bk nb rb jb : Addr) : Deferred := { target := .fn (.func 59) #[.pointer (some ⟨Y.Wg, 0, none⟩), .pointer (some bk), .pointer (some nb), .pointer (some rb), .pointer (some jb)], args := #[] }
theorem mixed : Try.prog.follows .mixedOrders = true := by kernel_rfl
theorem quitsTail59 (T : Array Value) : QuitsD Try.prog 2 0 (G { (baseD 59).at ⟨T, []⟩ [] with mode := .returning } [bot59]) := by
  refine QuitsD.ctl (g' := G bot59 []) rfl (fun w => ?_) ?_
  · simp [G, stepG, unwind, doReturn, results, Frame.at, baseD, bot59, Try.func59, Try.f59, seen, GStep.after, goexitEntry]
  refine QuitsD.ctl (g' := { G bot59 [] with status := .finished }) rfl (fun w => ?_) ⟨rfl, rfl⟩
  simp [G, stepG, unwind, bot59, goexitEntry, Frame.catches]
  rfl
theorem born59 (Y : Lay) (bk nb rb jb : Addr) (w : World) : stepG Try.prog false (born Try.prog (call59 Y bk nb rb jb)) w =
    .go (G ((baseD 59).at ⟨#[.pointer (some ⟨Y.Wg, 0, none⟩), .pointer (some bk), .pointer (some nb), .pointer (some rb), .pointer (some jb), undef, undef, undef, undef, undef, undef, undef, undef, undef, undef, undef, undef, undef], []⟩ [.code body59]) [bot59]) w #[] := by
  simp [born, call59, stepG, unwind, callDeferred, invoke, callFunc, Try.func59, Try.f59, seen, GStep.after, G, Frame.enter, Frame.at, baseD, bot59, body59]
theorem repl59 : Array.replicate ops59.size false = #[false, false, false, false, false, false, false, false, false, false, false, false, false] := by rw [size59]; rfl
section
variable {Y : Lay} {Held : List Nat → World → Prop} {F : Nat → Prop} {Kn : World → Prop} {vs : List Int} {k : Nat} {bk nb rb jb ja : Addr} {n cap0 j : Nat} {rule : Value} {bs : Option Addr} {ns : List Int} {cap : Nat} {val : Int}
set_option maxRecDepth 100000 in
set_option maxHeartbeats 8000000 in
/-- ████ A WORKER ████ -/
theorem workGo (K : KnL Y 92 99 F Kn) (hH : ∀ l (v v' : World), v'.heap[Y.Mp]? = v.heap[Y.Mp]? → Held l v → Held l v') (X : Bx Y F Kn bk nb rb jb ja n cap0 j rule bs ns.length cap) (hn : ns.length ≤ 20) (hv : vs.length = ns.length)
    (hRd : ∀ w, Kn w → ∀ (j : Nat) (n : Int), ns[j]? = some n → ∃ ad, bs = some ad ∧ w.cell? (ad.add j) = some (.int .i64 n) ∧ Y.Ro (.cell (ad.add j)))
    (hLook : ∀ l0 w, KnO Held Kn l0 w → ∃ l, MpAt Y.Mp w l ∧ ∀ (j : Nat) (n v : Int), ns[j]? = some n → vs[j]? = some v → look l n = some v)
    (hUp : ∀ l0 w, KnO Held Kn l0 w → ∃ ob, UpB Try.prog Y.Mp (j : Int) val ob w ∧ Held (l0 ++ [k]) { w with heap := w.heap.setIfInBounds Y.Mp ob })
    (hRule : ∀ (F' : Nat → Prop) (B : Nat), (∀ f, F f → F' f) → F' B → ∀ (s5 s6 s7 s8 s9 s10 s11 s12 s13 s14 s15 s16 s17 : Value) (rest : List Nat) (d : Nat) (l0 : List Nat), (∃ m, ∀ w, Kb Y Kn F' B (.cells (vs.map (Value.int .i64)).toArray 2 (0, 0)) w → Goes Try.prog false (RF Y 92 99 F' false) (DF Y (Y.b + 1 + k) F' false false) (AtW Try.prog Y 92 99 Held d k .af F' l0) m (G ((baseD 59).at ⟨#[.pointer (some ⟨Y.Wg, 0, none⟩), .pointer (some bk), .pointer (some nb), .pointer (some rb), .pointer (some jb), s5, s6, rule, .int .i64 (j : Int), s9, s10, s11, s12, s13, s14, .slice (some ⟨B, 0, none⟩) ns.length ns.length, .int .i64 val, s17], [dcall 60 #[.pointer (some ⟨Y.Wg, 0, none⟩)]]⟩ (.inRegion ops59 rest :: [])) [bot59]) w) → ∃ m, ∀ w, Kb Y Kn F' B (.cells (vs.map (Value.int .i64)).toArray 2 (0, 0)) w → Goes Try.prog false (RF Y 92 99 F' false) (DF Y (Y.b + 1 + k) F' false false) (AtW Try.prog Y 92 99 Held d k .af F' l0) m (G ((baseD 59).at ⟨#[.pointer (some ⟨Y.Wg, 0, none⟩), .pointer (some bk), .pointer (some nb), .pointer (some rb), .pointer (some jb), s5, s6, rule, .int .i64 (j : Int), s9, s10, s11, s12, s13, s14, .slice (some ⟨B, 0, none⟩) ns.length ns.length, s16, s17], [dcall 60 #[.pointer (some ⟨Y.Wg, 0, none⟩)]]⟩ (.inRegion ops59 (11 :: rest) :: [])) [bot59]) w) :
    ∀ w, Kn w → Works Try.prog Y 92 99 Held k F (born Try.prog (call59 Y bk nb rb jb)) w := by
  intro w hF d
  have hEnd : ∀ (F' : Nat → Prop) (B : Nat), (∀ f, F f → F' f) → F' B → ∀ (s5 s6 s7 s8 s9 s10 s11 s12 s13 s14 s15 s16 s17 : Value) (d : Nat) (l0 : List Nat), ∃ m, ∀ w, Kb Y Kn F' B (.cells (vs.map (Value.int .i64)).toArray 2 (0, 0)) w → Goes Try.prog false (RF Y 92 99 F' false) (DF Y (Y.b + 1 + k) F' false false) (AtW Try.prog Y 92 99 Held d k (.dn .wr) F' l0) m (G ((baseD 59).at ⟨#[.pointer (some ⟨Y.Wg, 0, none⟩), .pointer (some bk), .pointer (some nb), .pointer (some rb), .pointer (some jb), s5, s6, s7, s8, s9, s10, s11, s12, s13, s14, s15, s16, s17], [dcall 60 #[.pointer (some ⟨Y.Wg, 0, none⟩)]]⟩ (.inRegion ops59 [] :: [])) [bot59]) w := by
    intro F' B hs hB s5 s6 s7 s8 s9 s10 s11 s12 s13 s14 s15 s16 s17 d l0
    have K' := K.kb (B := B) (ob := (.cells (vs.map (Value.int .i64)).toArray 2 (0, 0))) hs hB
    refine ⟨100, fun w hF => goes_dc0 (fun w => .idle w) ?_⟩
    have hD := fun (T : Array Value) => doneGo (k := k) (lg := l0) (Held := Held) K' (c := { (baseD 59).at ⟨T, []⟩ [] with mode := .returning }) (cs := [bot59]) rfl (quitsTail59 T) d
    simp only [body60, Try.f60, Option.getD_some] at hD
    repeat w_go K'.rl
    u_in K'.rl hF
    rw [stepG_unwind_enter rfl Try.func60 nm60 rfl]
    simp only [goes_go]
    refine ⟨by u_nil, ?_⟩
    walk_nrmf Try.f60
    exact goes_le (by omega) (hD _ _ hF)
  obtain ⟨m, hm⟩ := goes_drawn (P := Try.prog) (main := false) (R := RF Y 92 99 F false) (D := DF Y (Y.b + 1 + k) F false false) (Stop := AtW Try.prog Y 92 99 Held d k (.k1 .ld) F []) (Kn := Kn)
    (b := baseD 59) (a := ⟨#[.pointer (some ⟨Y.Wg, 0, none⟩), .pointer (some bk), .pointer (some nb), .pointer (some rb), .pointer (some jb), undef, undef, undef, undef, undef, undef, undef, undef, undef, undef, undef, undef, undef], [dcall 60 #[.pointer (some ⟨Y.Wg, 0, none⟩)]]⟩) (kk := []) (cs := [bot59]) (id := 1) (ops := ops59) mixed rfl (fun w => .drew w _) (fun h r => K.rl h r) (fun {w} h => K.rl h (RF.at w (w.drawn + 1)))
    (fun ord hO => ph1 (lg := []) K hH X hn hv hRd hLook hUp hRule hEnd ord false false false false false false false false false false undef undef undef undef undef undef undef undef undef undef undef undef undef (by rw [repl59] at hO; exact hO) (by simp) (by simp) (by simp) (by simp) (by simp) (by simp) (by simp) (by simp) (by simp) (by simp) (by simp) (by simp) (by simp) d)
  refine ⟨m + 20 + 1, Goes.step rfl fun w₁ h₁ => ?_⟩
  replace hF := K.rl hF h₁
  rw [born59]
  refine ⟨.idle _, ?_⟩
  refine goes_idle (m := m) (n := 20) (fun w => .idle w) (fun w => .refl w) ?_
  simp only [body59, Try.f59, Option.getD_some]
  repeat w_go K.rl
  u_defer K.rl hF
  repeat w_go K.rl
  refine Goes.stop (fun w r => ?_)
  exact hm _ (K.rl hF r)
end
end Go.Proofs.Ytpmmimcafkillaa.Tr

set_option linter.unusedVariables false
set_option linter.unusedSimpArgs false
namespace Go.Proofs.Ytpmmimcafkillaa.Tr
open Go Go.Conc Go.ConcN Go.RowKit Go.Conc.Lib Go.ConcR.Gen Go.ConcM
open Go.ConcR (KK wgBlock WgAt stA smA rd wr mk DC0)
open Go.Proofs.Ytpmmimcafkillaa.Mx
open Go.Proofs.Ytpmmimcafkillaa.Mx (Mu St)
section
variable {main : Bool} {b : Frame} {a : Act} {kk : List Item} {cs : List Frame} {w : World} {ops : Array Oper} {i : Nat} {rest : List Nat} {o : Oper}
end
section
variable {Y : Lay} {F : Nat → Prop} {Kw : World → Prop} {gid : Nat} {vs : List Int} {B : Nat} {Stop : Goroutine → World → Prop}
variable {b₀ : Frame} {a₀ : Act} {ops₀ : Array Oper} {i₀ : Nat} {rest₀ : List Nat} {k₀ : List Item} {cs : List Frame}
end
end Go.Proofs.Ytpmmimcafkillaa.Tr

namespace Go.Proofs.Ytpmmimcafkillaa
open Go.RowKit
set_option linter.unusedVariables false
set_option linter.unusedSimpArgs false

theorem hide {p : Prop} (h : p) : Hid p := h
theorem unhide {p : Prop} (h : Hid p) : p := h
theorem ret_bool {a b : Bool} (h : a = b) : Ending.returned (.bool a) = .returned (.bool b) := by rw [h]
theorem bcell {W w1 : World} (hb : Below W.heap.size W w1) : (∀ b o, b < W.heap.size → w1.cell? ⟨b, o, none⟩ = W.cell? ⟨b, o, none⟩) ∧ (∀ b o, b < W.heap.size → w1.frozen? ⟨b, o, none⟩ = W.frozen? ⟨b, o, none⟩) :=
  ⟨fun b o h => hb.cell (p := ⟨b, o, none⟩) h, fun b o h => hb.frozen (p := ⟨b, o, none⟩) h⟩
abbrev iv (x : Int) : Value := .int .i64 x
theorem own_mono {w : World} {B B' n m : Nat} {e : TypeId} {v : Value} {xs : List Value} (h : w.ownsRow B e m v n xs) (hB : B' ≤ B) : w.ownsRow B' e m v n xs := by
  obtain ⟨h1, h2⟩ := h
  refine ⟨h1, ?_⟩
  rcases h2 with h2 | ⟨g, cap, cur, hv, hg, r⟩
  · exact Or.inl h2
  · exact Or.inr ⟨g, cap, cur, hv, by omega, r⟩
theorem ownsRow_below {w w1 : World} {B n m : Nat} {e : TypeId} {v : Value} {xs : List Value} (h : w.ownsRow B e m v n xs) (hb : Below w.heap.size w w1) : w1.ownsRow B e m v n xs := by
  obtain ⟨h1, h2⟩ := h
  refine ⟨h1, ?_⟩
  rcases h2 with h2 | ⟨g, cap, cur, hv, hg, hh, r⟩
  · exact Or.inl h2
  · exact Or.inr ⟨g, cap, cur, hv, hg, by rw [hb.block g (by have := (Array.getElem?_eq_some_iff.1 hh).1; exact this)]; exact hh, r⟩
theorem own_lt {w : World} {B g n cap m : Nat} {e : TypeId} {xs : List Value} (h : w.ownsRow B e m (.slice (some ⟨g, 0, none⟩) n cap) n xs) : g < w.heap.size := (h.lt g rfl).2
theorem own_ge {w : World} {B g n cap m : Nat} {e : TypeId} {xs : List Value} (h : w.ownsRow B e m (.slice (some ⟨g, 0, none⟩) n cap) n xs) : B ≤ g := (h.lt g rfl).1
theorem own_kept {w w1 : World} {B g n m cap h : Nat} {e : TypeId} {xs : List Value} (ho : w.ownsRow B e m (.slice (some ⟨g, 0, none⟩) n cap) n xs) (hg : w.grownBy w1 (some h)) (hne : g ≠ h) : w1.ownsRow B e m (.slice (some ⟨g, 0, none⟩) n cap) n xs := by
  have hlt := own_lt ho
  obtain ⟨h1, h2⟩ := ho
  refine ⟨h1, ?_⟩
  rcases h2 with h2 | ⟨g', cap', cur, hv, hB, hh, r⟩
  · exact Or.inl h2
  · refine Or.inr ⟨g', cap', cur, hv, hB, ?_, r⟩
    injection hv with e1
    injection e1 with e1
    injection e1 with e1
    subst e1
    rw [hg.block g hlt (by intro hh; injection hh with hh; exact hne hh)]; exact hh
theorem below_grown {W w w1 : World} {g : Nat} (h : Below W.heap.size W w) (hg : w.grownBy w1 (some g)) (hB : W.heap.size ≤ g) : Below W.heap.size W w1 :=
  h.grown hg h.size (fun k hk => by injection hk with hk; omega)
theorem laterB {W w w1 : World} (h : Below W.heap.size W w) (hb : Below w.heap.size w w1) : Below W.heap.size W w1 := h.trans (hb.mono h.size)
/-- the first i cells bear the marks from q on -/
def Mkd (q : Int) (i : Nat) (xs : List Value) : Prop := ∀ j, j < i → xs[j]? = some (iv (q + j))
theorem Mkd.set {q : Int} {i : Nat} {xs : List Value} (h : Mkd q i xs) (hi : i < xs.length) : Mkd q (i + 1) (xs.set i (iv (q + i))) := by
  intro j hj
  by_cases e : j = i
  · subst e; simp [hi]
  · rw [List.getElem?_set_ne (by omega)]; exact h j (by omega)
theorem grown_refl (w : World) (g : Option Nat) : w.grownBy w g := ⟨rfl, rfl, rfl, Nat.le_refl _, fun _ _ _ => rfl⟩
theorem grown_trans {w w1 w2 : World} {g : Option Nat} (h : w.grownBy w1 g) (k : w1.grownBy w2 g) : w.grownBy w2 g :=
  ⟨k.os.trans h.os, k.tape.trans h.tape, k.output.trans h.output, Nat.le_trans h.size k.size, fun j hj hn => (k.block j (Nat.lt_of_lt_of_le hj h.size) hn).trans (h.block j hj hn)⟩
theorem grown_set {w w1 : World} {g i : Nat} {v : Value} (h : w.grownBy w1 (some g)) : w.grownBy (w1.setCell ⟨g, i, none⟩ v) (some g) :=
  grown_trans h ⟨rfl, rfl, rfl, by simp, fun j hj hn => by
    have hg : g ≠ j := fun e => hn (by rw [e])
    simp [World.setCell, Array.getElem?_modify, hg]⟩
theorem own_at {w : World} {B g n m cap i : Nat} {e : TypeId} {xs : List Value} (h : w.ownsRow B e m (.slice (some ⟨g, 0, none⟩) n cap) n xs) (hi : i < n * m) : ∃ v, w.cell? ⟨g, i, none⟩ = some v ∧ w.frozen? ⟨g, i, none⟩ = false ∧ xs[i]? = some v ∧ xs.length = n * m := by
  have hl : xs.length = n * m := h.1
  have hc := h.cellAt i hi
  exact ⟨xs[i]'(by omega), by rw [hc, List.getElem?_eq_getElem (by omega)], h.frozenAt i, List.getElem?_eq_getElem (by omega), hl⟩
theorem infoI : (Try.prog.info? 2).map (fun i => (i.zero, i.size, i.bytes)) = some (some (.int .i64 0), 1, 8) := by kernel_rfl
/-- the numbers l behind the address a -/
def Ins (w : World) (a : Option Addr) (l : List Int) : Prop :=
  ∀ j x, l[j]? = some x → ∃ b o, a = some ⟨b, o, none⟩ ∧ b < w.heap.size ∧ w.cell? ⟨b, o + j, none⟩ = some (.int .i64 x)
theorem Ins.nil {w : World} {a : Option Addr} : Ins w a [] := by intro j z hz; simp at hz
theorem Ins.below {w w' : World} {a : Option Addr} {l : List Int} (h : Ins w a l) (s : Below w.heap.size w w') : Ins w' a l := by
  intro j x hx
  obtain ⟨b, o, e, h1, c0⟩ := h j x hx
  exact ⟨b, o, e, Nat.lt_of_lt_of_le h1 s.size, ((bcell s).1 b _ h1).trans c0⟩
theorem ins_at {w wr : World} {a : Option Addr} {l : List Int} {k : Nat} (h : Ins w a l) (hw : Below w.heap.size w wr) (hk : k < l.length) : ∃ b o x, a = some ⟨b, o, none⟩ ∧ l[k]? = some x ∧ b < w.heap.size ∧ wr.cell? ⟨b, o + k, none⟩ = some (.int .i64 x) := by
  obtain ⟨b, o, e, h1, c0⟩ := h k l[k] (List.getElem?_eq_getElem hk)
  exact ⟨b, o, _, e, List.getElem?_eq_getElem hk, h1, ((bcell hw).1 b _ h1).trans c0⟩
/-- an owned list of numbers -/
abbrev OwnI (w : World) (B g n cap : Nat) (l : List Int) : Prop := w.ownsRow B 2 1 (.slice (some ⟨g, 0, none⟩) n cap) n (l.map iv)
theorem ownI_len {w : World} {B g n cap : Nat} {l : List Int} (h : OwnI w B g n cap l) : l.length = n := by
  have hl : (l.map iv).length = n * 1 := h.1
  simpa using hl
theorem ownI_at {w : World} {B g n cap k : Nat} {l : List Int} {x : Int} (hk : l[k]? = some x) (h : OwnI w B g n cap l) : w.cell? ⟨g, k, none⟩ = some (.int .i64 x) := by
  have hl := ownI_len h
  have hj : k < l.length := (List.getElem?_eq_some_iff.1 hk).1
  have := h.cellAt k (by omega)
  rw [this, List.getElem?_map, hk]; rfl
theorem ownI_put {w : World} {B g n cap : Nat} {l : List Int} (k : Nat) (x : Int) (h : OwnI w B g n cap l) : OwnI (w.setCell ⟨g, k, none⟩ (.int .i64 x)) B g n cap (l.set k x) := by
  have h1 := (h.stored k (iv x)).1
  show World.ownsRow _ _ _ _ _ _ _
  rw [List.map_set]; exact h1
theorem ins_own {w : World} {B g n cap : Nat} {l : List Int} (h : OwnI w B g n cap l) : Ins w (some ⟨g, 0, none⟩) l := by
  intro j z hj
  exact ⟨g, 0, rfl, own_lt h, by rw [Nat.zero_add]; exact ownI_at hj h⟩
theorem ownI_lit0 (w : World) {B : Nat} (hB : B ≤ w.heap.size) : OwnI (w.alloc (.cells #[] 2)) B w.heap.size 0 0 [] := by
  have h := World.ownsRow_lit (base := B) (e := 2) (size := 1) w #[] 0 hB (by unfold maxLen; omega) rfl
  exact h
/-- the copy's list as it stands -/
def midI (l : List Int) (n k : Nat) : List Int := l.take k ++ List.replicate (n - k) 0
theorem midI_len {l : List Int} {n k : Nat} (hl : l.length = n) (hk : k ≤ n) : (midI l n k).length = n := by simp [midI]; omega
theorem midI_set {l : List Int} {n k : Nat} {x : Int} (hl : l.length = n) (h : l[k]? = some x) : (midI l n k).set k x = midI l n (k + 1) := by
  have hk : k < l.length := (List.getElem?_eq_some_iff.1 h).1
  unfold midI
  rw [List.take_add_one, h, List.set_append_right _ _ (by simp; omega)]
  have e : n - k = (n - (k + 1)) + 1 := by omega
  rw [e, List.replicate_succ]
  have e2 : k - (l.take k).length = 0 := by simp; omega
  rw [e2]; simp
theorem made_I (n : Nat) : (madeCells #[.int .i64 0] n).toList = (List.replicate n (0 : Int)).map iv := by
  have := toList_madeCells_one (.int .i64 0) n
  simpa [iv] using this

end Go.Proofs.Ytpmmimcafkillaa
