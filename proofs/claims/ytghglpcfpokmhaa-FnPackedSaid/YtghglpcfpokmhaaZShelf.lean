/-
  Lists of strings in memory: owned rows and lists that are read, and contracts of the law's functions that copy them and hold them against each other.
  The contract of the model's Pack; nothing that was there is written.
  Contracts of the leaves of Update: where a name stands, assets compared, names compared, a search by halves; nothing that was there is written.
  Contracts of the library's functions on the road of these laws, laid at this program's own numbers: the copy of a string.
-/
import Derived.Test.YtghglpcfpokmhaaZBasA
import Derived.Test.YtghglpcfpokmhaaZLv
import Derived.Test.YtghglpcfpokmhaaZBb
import Derived.Test.YtghglpcfpokmhaaZPk
import Derived.Test.YtghglpcfpokmhaaZDg
import Derived.Deep.CutRange
import Derived.Test.YtghglpcfpokmhaaZUp1
import Derived.Laws.StructEq
import Derived.Shelf.LaysM
import Derived.Shelf.Strconv.Clone
import Derived.Test.YtghglpcfpokmhaaProg
namespace Go.Proofs.Ytghglpcfpokmhaa
open Go.RowKit
set_option linter.unusedVariables false
set_option linter.unusedSimpArgs false

theorem infoS : (Try.prog.info? 9).map (fun i => (i.zero, i.size, i.bytes)) = some (some (.string ⟨#[]⟩), 1, 16) := by kernel_rfl
/-- the numbers l behind the address a -/
def Sts (w : World) (a : Option Addr) (l : List ByteArray) : Prop :=
  ∀ j x, l[j]? = some x → ∃ b o, a = some ⟨b, o, none⟩ ∧ b < w.heap.size ∧ w.cell? ⟨b, o + j, none⟩ = some (.string x)
theorem Sts.nil {w : World} {a : Option Addr} : Sts w a [] := by intro j z hz; simp at hz
theorem Sts.below {w w' : World} {a : Option Addr} {l : List ByteArray} (h : Sts w a l) (s : Below w.heap.size w w') : Sts w' a l := by
  intro j x hx
  obtain ⟨b, o, e, h1, c0⟩ := h j x hx
  exact ⟨b, o, e, Nat.lt_of_lt_of_le h1 s.size, ((bcell s).1 b _ h1).trans c0⟩
theorem sts_at {w wr : World} {a : Option Addr} {l : List ByteArray} {k : Nat} (h : Sts w a l) (hw : Below w.heap.size w wr) (hk : k < l.length) : ∃ b o x, a = some ⟨b, o, none⟩ ∧ l[k]? = some x ∧ b < w.heap.size ∧ wr.cell? ⟨b, o + k, none⟩ = some (.string x) := by
  obtain ⟨b, o, e, h1, c0⟩ := h k l[k] (List.getElem?_eq_getElem hk)
  exact ⟨b, o, _, e, List.getElem?_eq_getElem hk, h1, ((bcell hw).1 b _ h1).trans c0⟩
/-- an owned list of numbers -/
abbrev OwnS (w : World) (B g n cap : Nat) (l : List ByteArray) : Prop := w.ownsRow B 9 1 (.slice (some ⟨g, 0, none⟩) n cap) n (l.map sv)
theorem ownS_len {w : World} {B g n cap : Nat} {l : List ByteArray} (h : OwnS w B g n cap l) : l.length = n := by
  have hl : (l.map sv).length = n * 1 := h.1
  simpa using hl
theorem ownS_at {w : World} {B g n cap k : Nat} {l : List ByteArray} {x : ByteArray} (hk : l[k]? = some x) (h : OwnS w B g n cap l) : w.cell? ⟨g, k, none⟩ = some (.string x) := by
  have hl := ownS_len h
  have hj : k < l.length := (List.getElem?_eq_some_iff.1 hk).1
  have := h.cellAt k (by omega)
  rw [this, List.getElem?_map, hk]; rfl
theorem ownS_put {w : World} {B g n cap : Nat} {l : List ByteArray} (k : Nat) (x : ByteArray) (h : OwnS w B g n cap l) : OwnS (w.setCell ⟨g, k, none⟩ (.string x)) B g n cap (l.set k x) := by
  have h1 := (h.stored k (sv x)).1
  show World.ownsRow _ _ _ _ _ _ _
  rw [List.map_set]; exact h1
theorem sts_own {w : World} {B g n cap : Nat} {l : List ByteArray} (h : OwnS w B g n cap l) : Sts w (some ⟨g, 0, none⟩) l := by
  intro j z hj
  exact ⟨g, 0, rfl, own_lt h, by rw [Nat.zero_add]; exact ownS_at hj h⟩
theorem ownS_lit0 (w : World) {B : Nat} (hB : B ≤ w.heap.size) : OwnS (w.alloc (.cells #[] 9)) B w.heap.size 0 0 [] := by
  have h := World.ownsRow_lit (base := B) (e := 9) (size := 1) w #[] 0 hB (by unfold maxLen; omega) rfl
  exact h
/-- the copy's list as it stands -/
def midS (l : List ByteArray) (n k : Nat) : List ByteArray := l.take k ++ List.replicate (n - k) ⟨#[]⟩
theorem midS_len {l : List ByteArray} {n k : Nat} (hl : l.length = n) (hk : k ≤ n) : (midS l n k).length = n := by simp [midS]; omega
theorem midS_set {l : List ByteArray} {n k : Nat} {x : ByteArray} (hl : l.length = n) (h : l[k]? = some x) : (midS l n k).set k x = midS l n (k + 1) := by
  have hk : k < l.length := (List.getElem?_eq_some_iff.1 h).1
  unfold midS
  rw [List.take_add_one, h, List.set_append_right _ _ (by simp; omega)]
  have e : n - k = (n - (k + 1)) + 1 := by omega
  rw [e, List.replicate_succ]
  have e2 : k - (l.take k).length = 0 := by simp; omega
  rw [e2]; simp
theorem made_S (n : Nat) : (madeCells #[.string ⟨#[]⟩] n).toList = (List.replicate n (⟨#[]⟩ : ByteArray)).map sv := by
  have := toList_madeCells_one (.string ⟨#[]⟩) n
  simpa [sv] using this

theorem sv_news {w : World} {E : Nat} {v : ByteArray} {t : TypeId} {m : Nat × Nat} (hblk : w.heap[E]? = some (.cells #[.string v] t m)) : ∀ j u, [sv v][j]? = some u → w.cell? ((⟨E, 0, none⟩ : Addr).add j) = some u := by
  have := World.news_of_block hblk
  simpa [sv] using this
theorem wpList_sG {ops : Array Oper} {rest : List Oper} {o : Oper} {a : Act} {Q : Exit → Act → World → Prop} (w : World) (hgd : o.guard = none) (s x : Operand) (ho : o.op = .call { callee := .builtin .append, args := #[s, x], argTypes := #[24, 24] })
    (B g n cap : Nat) (L : List ByteArray) (v : ByteArray) (hs : a.eval s = .slice (some ⟨g, 0, none⟩) n cap) (hown : OwnS w B g n cap L) (hx : a.eval x = .slice (some ⟨w.heap.size, 0, none⟩) 1 1)
    (hl : n ≤ 1000000) (hB : B ≤ w.heap.size)
    (h : ∀ g' cap' w', OwnS w' B g' (n + 1) cap' (L ++ [v]) → w.grownBy w' (some g) → B ≤ g' → (g' = g ∨ w.heap.size ≤ g') → wpList Try.prog ops Q rest (a.put o.dst (.slice (some ⟨g', 0, none⟩) (n + 1) cap')) w') : wpList Try.prog ops Q (o :: rest) a (w.alloc (.cells #[.string v] 9)) := by
  obtain ⟨i0, hi, hz0, hz1, hz2⟩ := info_parts infoS
  have hb : Below w.heap.size w (w.alloc (.cells #[.string v] 9)) := (Below.refl _ _).alloc (Nat.le_refl _) _
  have hblk : (w.alloc (.cells #[.string v] 9)).heap[w.heap.size]? = some (.cells #[.string v] 9 (0, 0)) := heap_alloc_new w _
  have hnews := sv_news hblk
  have hsz := hb.size
  generalize w.alloc (.cells #[.string v] 9) = W at *
  have hown2 := ownsRow_below hown hb
  have hBg : B ≤ g := (hown.lt g rfl).1
  refine wpList_append_lies W hgd s x 24 ho B 9 i0 (.string ⟨#[]⟩) 1 16 Try.underlying24 hi hz0 hz1 hz2 rfl (by decide) _ n (L.map sv) hs hown2 ⟨w.heap.size, 0, none⟩ 1 1 [sv v] hx rfl hnews (by intro u hu; simp at hu; subst hu; rfl) (by decide) (by unfold maxLen; omega) (by omega) (by omega) W.heap.size rfl ?_
  intro g' cap' w' h1 h2 h3 h4
  refine h g' cap' w' (by show World.ownsRow _ _ _ _ _ _ _; rw [List.map_append]; exact h1) ?_ (own_ge h1) ?_
  · exact grown_trans ⟨hb.os, hb.tape, hb.output, hb.size, fun j hj _ => hb.block j hj⟩ h2
  · rcases h3 with h3 | h3
    · simp [Value.ownBlock] at h3; exact .inl h3.symm
    · exact .inr (by omega)

end Go.Proofs.Ytghglpcfpokmhaa

namespace Go.Proofs.Ytghglpcfpokmhaa
open Go.RowKit
open Go.Proofs.Ytghglpcfpokmhaa.Bb (Tks)
set_option linter.unusedVariables false
set_option linter.unusedSimpArgs false

/-- an asset in a block of its own -/
def Bx (w : World) (E : Nat) (x : Kl) : Prop := w.heap[E]? = some (.cells #[.string x.1, .int .i64 x.2.1, .int .i64 x.2.2] 38 (0, 0))
theorem Bx.lt {w : World} {E : Nat} {x : Kl} (h : Bx w E x) : E < w.heap.size := (Array.getElem?_eq_some_iff.1 h).1
theorem Bx.below {w w1 : World} {E C : Nat} {x : Kl} (h : Bx w E x) (hb : Below C w w1) (hE : E < C) : Bx w1 E x := (hb.block E hE).trans h
theorem Bx.set {w : World} {E g i : Nat} {x : Kl} {v : Value} (h : Bx w E x) (hne : g ≠ E) : Bx (w.setCell ⟨g, i, none⟩ v) E x := by
  unfold Bx at *
  rw [← h]
  simp [World.setCell, Array.getElem?_modify, hne]
theorem bys_drewN {w : World} {a : Option Addr} {l : List Int} (h : Bys w a l) (n : Nat) : Bys (w.drewN n) a l := h.below (below_drewN (Below.refl _ _) n)
theorem blw_drew {w w1 : World} (h : Below w.heap.size w w1) : Below w.heap.size w w1.drew := h.drew
theorem blw_alloc {w w1 : World} {o : Obj} (h : Below w.heap.size w w1) : Below w.heap.size w (w1.alloc o) := h.alloc h.size _
/-- the two cells that are read, and all that was there -/
abbrev SQ (x : World) (bn o bt p : Nat) (v u : Value) (w0 : World) : Prop := w0.cell? ⟨bn, o, none⟩ = some v ∧ w0.cell? ⟨bt, p, none⟩ = some u ∧ Below x.heap.size x w0
section
variable {x w0 w1 : World} {bn ob bt p : Nat} {v u : Value}
theorem kq_keep (h : SQ x bn ob bt p v u w0) (hb : Below w0.heap.size w0 w1) : SQ x bn ob bt p v u w1 := ⟨cell_later hb h.1, cell_later hb h.2.1, laterB h.2.2 hb⟩
theorem kq_drew (h : SQ x bn ob bt p v u w0) : SQ x bn ob bt p v u w0.drew := ⟨h.1, h.2.1, h.2.2.drew⟩
theorem kq_undrew (h : SQ x bn ob bt p v u w0.drew) : SQ x bn ob bt p v u w0 := ⟨h.1, h.2.1, h.2.2.os, h.2.2.tape, h.2.2.output, h.2.2.size, h.2.2.block⟩
theorem kq_bel (h : SQ x bn ob bt p v u w0) : Below x.heap.size x w0 := h.2.2
theorem kq_alloc {o : Obj} (h : SQ x bn ob bt p v u w0) : SQ x bn ob bt p v u (w0.alloc o) := kq_keep h ((Below.refl _ _).alloc (Nat.le_refl _) _)
theorem kq_allocd {o : Obj} (h : SQ x bn ob bt p v u w0.drew) : SQ x bn ob bt p v u (w0.alloc o).drew := kq_drew (kq_alloc (kq_undrew h))
end
/-- an answer that is a new list and a sign -/
def AnP (w : World) (Q : List Kl → Bool → Prop) (e : Ending) (w' : World) : Prop := ∃ L ok g c, e = .returned (.tuple #[.slice (some ⟨g, 0, none⟩) L.length c, .bool ok]) ∧ Own w' w.heap.size g L.length c L ∧ Below w.heap.size w w' ∧ Q L ok
theorem AnP.mk {w w' : World} {Q : List Kl → Bool → Prop} {L : List Kl} {n g c : Nat} {ok : Bool} (ho : Own w' w.heap.size g n c L) (hb : Below w.heap.size w w') (hq : Q L ok) : AnP w Q (.returned (.tuple #[.slice (some ⟨g, 0, none⟩) n c, .bool ok])) w' := by
  have h1 := own_len ho
  subst h1
  exact ⟨L, ok, g, c, rfl, ho, hb, hq⟩
theorem AnP.new {w wr : World} {Q : List Kl → Bool → Prop} (hb : Below w.heap.size w wr) (hq : Q [] false) : AnP w Q (.returned (.tuple #[.slice (some ⟨wr.heap.size, 0, none⟩) 0 0, .bool false])) (wr.alloc (.cells #[] 38)) :=
  AnP.mk (own_lit0 wr hb.size) (hb.alloc hb.size _) hq
/-- the state of the outer loop -/
structure PS (ns : List ByteArray) (ts : List (List Int)) (w wr : World) (k g c : Nat) (L : List Kl) : Prop where
  own : Own wr w.heap.size g k c L
  bel : Below w.heap.size w wr
  perm : L.Perm ((pkL ns ts).take k)
  rise : Rise L
  nms : ∀ (j : Nat) (n : ByteArray), j < k → ns[j]? = some n → nmOk n = true
  bds : ∀ (j : Nat) (t : List Int), j < k → ts[j]? = some t → t.length ≤ 40000
/-- the state of the inner loop -/
structure PI (w wi : World) (k g c E m : Nat) (L : List Kl) (x y : Kl) : Prop where
  own : Own wi w.heap.size g (k + 1) c (shf L m y)
  bel : Below w.heap.size w wi
  bx : Bx wi E x
  ne : g ≠ E
  up : ∀ (j : Nat) (z : Kl), m ≤ j → L[j]? = some z → bef x.1 z.1 = true
theorem PI.drew {w wi : World} {k g c E m : Nat} {L : List Kl} {x y : Kl} (h : PI w wi k g c E m L x y) (n : Nat) : PI w (wi.drewN n) k g c E m L x y := ⟨h.own, below_drewN h.bel _, h.bx, h.ne, h.up⟩
theorem PI.put {w wi : World} {k g c E m : Nat} {L : List Kl} {x y : Kl} (h : PI w wi k g c E m L x y) (v : Kl) (hm : m ≤ L.length) :
    Own (((wi.setCell ⟨g, m * 3, none⟩ (.string v.1)).setCell ⟨g, m * 3 + 1, none⟩ (.int .i64 v.2.1)).setCell ⟨g, m * 3 + 2, none⟩ (.int .i64 v.2.2)) w.heap.size g (k + 1) c (shf L m v) ∧ Below w.heap.size w (((wi.setCell ⟨g, m * 3, none⟩ (.string v.1)).setCell ⟨g, m * 3 + 1, none⟩ (.int .i64 v.2.1)).setCell ⟨g, m * 3 + 2, none⟩ (.int .i64 v.2.2)) ∧ Bx (((wi.setCell ⟨g, m * 3, none⟩ (.string v.1)).setCell ⟨g, m * 3 + 1, none⟩ (.int .i64 v.2.1)).setCell ⟨g, m * 3 + 2, none⟩ (.int .i64 v.2.2)) E x := by
  have hg := own_ge h.own
  refine ⟨?_, ((h.bel.setCell hg _).setCell hg _).setCell hg _, ((h.bx.set h.ne).set h.ne).set h.ne⟩
  have := own_put (k := m) (x := v) (by rw [shf_len hm]; omega) h.own
  rw [shf_set hm] at this
  exact this
theorem PS.next {ns : List ByteArray} {ts : List (List Int)} {w wr wi : World} {k g c g' c' : Nat} {L : List Kl} {n : ByteArray} {t : List Int} {m : Nat} (h : PS ns ts w wr k g c L) (hn : ns[k]? = some n) (ht : ts[k]? = some t) (h1 : nmOk n = true) (h2 : t.length ≤ 40000) (ho : Own wi w.heap.size g' (k + 1) c' (shf L m (ass n t))) (hb : Below w.heap.size w wi) (hlo : ∀ (j : Nat) (y : Kl), j < m → L[j]? = some y → bef y.1 n = true) (hup : ∀ (j : Nat) (z : Kl), m ≤ j → L[j]? = some z → bef n z.1 = true) : PS ns ts w wi (k + 1) g' c' (shf L m (ass n t)) := by
  refine ⟨ho, hb, ?_, shf_rise h.rise hlo hup, fun j n' hj hn' => ?_, fun j t' hj ht' => ?_⟩
  · rw [pkL_snoc hn ht]
    exact (shf_perm L m _).trans (h.perm.append_right _)
  · by_cases e : j = k
    · subst e; rw [hn] at hn'; injection hn' with hn'; subst hn'; exact h1
    · exact h.nms j n' (by omega) hn'
  · by_cases e : j = k
    · subst e; rw [ht] at ht'; injection ht' with ht'; subst ht'; exact h2
    · exact h.bds j t' (by omega) ht'

theorem PS.sz {ns : List ByteArray} {ts : List (List Int)} {w wr : World} {k g c : Nat} {L : List Kl} (h : PS ns ts w wr k g c L) (hl : ns.length = ts.length) {z : Kl} (hz : z ∈ L) : z.1.size ≤ maxLen := by
  have hm : z ∈ (pkL ns ts).take k := h.perm.mem_iff.1 hz
  obtain ⟨j, hj⟩ := List.getElem?_of_mem hm
  have hjl := (List.getElem?_eq_some_iff.1 hj).1
  have hjk : j < k := by simp at hjl; omega
  have hjn : j < ns.length := by simp [pkL_len hl] at hjl; omega
  rw [List.getElem?_take_of_lt hjk] at hj
  have e1 : ns[j]? = some (ns[j]'hjn) := List.getElem?_eq_getElem hjn
  have e2 : ts[j]? = some (ts[j]'(by omega)) := List.getElem?_eq_getElem (by omega)
  simp only [pkL, List.getElem?_zipWith, e1, e2] at hj
  injection hj with hj
  have := nm_size (h.nms j _ hjk e1)
  rw [← hj]
  show (ns[j]'hjn).size ≤ maxLen
  unfold maxLen; omega
theorem wpList_kG {ops : Array Oper} {rest : List Oper} {o : Oper} {a : Act} {Q : Exit → Act → World → Prop} (w : World) (hgd : o.guard = none) (s x : Operand) (ho : o.op = .call { callee := .builtin .append, args := #[s, x], argTypes := #[28, 28] })
    (B g n cap : Nat) (L : List Kl) (v0 : ByteArray) (v1 v2 : Int) (hs : a.eval s = .slice (some ⟨g, 0, none⟩) n cap) (hown : Own w B g n cap L) (hx : a.eval x = .slice (some ⟨w.heap.size, 0, none⟩) 1 1)
    (hl : n ≤ 1000000) (hB : B ≤ w.heap.size)
    (h : ∀ g' cap' w', Own w' B g' (n + 1) cap' (L ++ [(v0, v1, v2)]) → w.grownBy w' (some g) → B ≤ g' → (g' = g ∨ w.heap.size ≤ g') → wpList Try.prog ops Q rest (a.put o.dst (.slice (some ⟨g', 0, none⟩) (n + 1) cap')) w') : wpList Try.prog ops Q (o :: rest) a (w.alloc (.cells #[.string v0, .int .i64 v1, .int .i64 v2] 38)) := by
  obtain ⟨i0, hi, hz0, hz1, hz2⟩ := info_parts info44
  have hb : Below w.heap.size w (w.alloc (.cells #[.string v0, .int .i64 v1, .int .i64 v2] 38)) := (Below.refl _ _).alloc (Nat.le_refl _) _
  have hblk : (w.alloc (.cells #[.string v0, .int .i64 v1, .int .i64 v2] 38)).heap[w.heap.size]? = some (.cells #[.string v0, .int .i64 v1, .int .i64 v2] 38 (0, 0)) := heap_alloc_new w _
  have hnews := K_news (c := (v0, v1, v2)) hblk
  have hsz := hb.size
  generalize w.alloc (.cells #[.string v0, .int .i64 v1, .int .i64 v2] 38) = W at *
  have hown2 := ownsRow_below hown hb
  have hBg : B ≤ g := (hown.lt g rfl).1
  refine wpList_append_lies W hgd s x 28 ho B 38 i0 (.agg #[.string ⟨#[]⟩, .int .i64 0, .int .i64 0]) 3 32 Try.underlying28 hi hz0 hz1 hz2 rfl (by decide) _ n (flK L) hs hown2 ⟨w.heap.size, 0, none⟩ 1 1 [sv v0, iv v1, iv v2] hx rfl hnews (by intro u hu; simp at hu; rcases hu with rfl | rfl | rfl <;> rfl) (by decide) (by unfold maxLen; omega) (by omega) (by omega) W.heap.size rfl ?_
  intro g' cap' w' h1 h2 h3 h4
  refine h g' cap' w' (by show World.ownsRow _ _ _ _ _ _ _; rw [flK_append]; exact h1) ?_ (own_ge h1) ?_
  · exact grown_trans ⟨hb.os, hb.tape, hb.output, hb.size, fun j hj _ => hb.block j hj⟩ h2
  · rcases h3 with h3 | h3
    · simp [Value.ownBlock] at h3; exact .inl h3.symm
    · exact .inr (by omega)

set_option maxRecDepth 100000 in
set_option maxHeartbeats 6400000 in
theorem spack_any (b d : Option Addr) (cb cd : Nat) (ns : List ByteArray) (ts : List (List Int)) (w : World) (hn : ns.length ≤ 1048576) (ht : ts.length ≤ 1048576) (hz : ∀ n ∈ ns, n.size ≤ maxLen) (hy : ∀ t ∈ ts, Byt t) (hs : Sts w b ns) (hb : Tks w d ts) :
    Calls Try.prog 7 #[.slice b ns.length cb, .slice d ts.length cd] w (AnP w (PkQ ns ts)) := by
  have B0 := hide (show Below w.heap.size w (w.alloc (.cells #[] 38)) from (Below.refl _ _).alloc (Nat.le_refl _) _)
  have O0 := hide (own_lit0 w (Nat.le_refl _))
  have hs' := hide hs
  have hb' := hide hb
  have hz' := hide hz
  have hy' := hide hy
  clear hs hb hz hy
  by_cases hne : ns.length = ts.length
  rotate_left
  · have g0 : ((ns.length : Int) != ts.length) = true := by simp; omega
    have hq := hide (show PkQ ns ts [] false from .inr ⟨rfl, rfl, fun g => hne g.len⟩)
    clear hne
    go_enter Try.func7, Try.ntmps7
    go_wp2
    go_ret2
    exact AnP.mk (unhide O0) (unhide B0) (unhide hq)
  have g0 : ((ns.length : Int) != ts.length) = false := by simp; omega
  have hne' := hide hne
  clear hne
  by_cases h100 : ns.length ≤ 100
  rotate_left
  · have g1 : decide ((100 : Int) < ns.length) = true := by simp; omega
    have hq := hide (show PkQ ns ts [] false from .inr ⟨rfl, rfl, fun g => h100 g.few⟩)
    clear h100
    go_enter Try.func7, Try.ntmps7
    go_wp2
    go_ret2
    exact AnP.mk (unhide O0) (unhide B0) (unhide hq)
  have g1 : decide ((100 : Int) < ns.length) = false := by simp; omega
  have S0 := hide (show PS ns ts w (w.alloc (.cells #[] 38)) 0 w.heap.size 0 [] from ⟨unhide O0, unhide B0, by simp, List.Pairwise.nil, fun j n h => by omega, fun j n h => by omega⟩)
  clear O0 B0
  go_enter Try.func7, Try.ntmps7
  go_wp2
  go_loopw [6, 7] (fun u t wr => ∃ (k g c : Nat) (L : List Kl), k ≤ ns.length ∧ t = .int .i64 k ∧ u = .slice (some ⟨g, 0, none⟩) k c ∧ Hid (PS ns ts w wr k g c L)) (fun _ t _ => ns.length - (intOf t).toNat)
  case atStart => exact ⟨0, w.heap.size, 0, [], by omega, rfl, rfl, S0⟩
  case round =>
    clear S0
    obtain ⟨k, g, c, L, hk1, rfl, rfl, S⟩ := hrel
    by_cases hlt : k < ns.length
    rotate_left
    · have hke : Hid (k = ns.length) := hide (by omega)
      have hf := hide h100
      have g2 : decide ((k : Int) < ns.length) = false := by simp; omega
      go_wp2
      go_ret2
      have T := unhide S
      have hke := unhide hke
      have hp : L.Perm (pkL ns ts) := by have := T.perm; rwa [List.take_of_length_le (by rw [pkL_len (unhide hne')]; omega)] at this
      refine AnP.mk T.own T.bel (.inl ⟨rfl, ?_, hp, T.rise⟩)
      exact good_of (unhide hne') (unhide hf) (fun j n hn => T.nms j n (by have := (List.getElem?_eq_some_iff.1 hn).1; omega) hn) (fun j t ht => T.bds j t (by have := (List.getElem?_eq_some_iff.1 ht).1; have := unhide hne'; omega) ht) hp T.rise
    obtain ⟨bn, on, n, ea, hnn, i1, c0⟩ := sts_at (unhide hs') (unhide S).bel hlt
    subst ea
    obtain ⟨t, hx⟩ : ∃ t, ts[k]? = some t := ⟨ts[k]'(by have := unhide hne'; omega), List.getElem?_eq_getElem _⟩
    obtain ⟨bt, ot, pt, ct, et, i3, f0, K, hmx⟩ := (unhide hb').below (unhide S).bel k t hx
    subst et
    have hjt : (k : Int) < ts.length := by have := unhide hne'; omega
    have g2 : decide ((k : Int) < ns.length) = true := by simp; omega
    have hns := unhide hz' n (List.mem_of_getElem? hnn)
    have K := hide K
    have hyt := hide (unhide hy' t (List.mem_of_getElem? hx))
    have hnn := hide hnn
    have hx := hide hx
    clear i1 i3
    obtain ⟨v1, hv1⟩ : ∃ v, nmOk n = v := ⟨_, rfl⟩
    have p1 := hide hv1
    clear hv1
    go_wp2_with fail
    refine (snm_any n _ hns).mono ?_
    rintro e w1 ⟨rfl, hw0⟩
    have hw1 := hw0.symm
    subst hw1
    rw [unhide p1]
    cases v1 with
    | false =>
      have hq := hide (show PkQ ns ts [] false from .inr ⟨rfl, rfl, bad_nm (unhide hnn) (unhide p1)⟩)
      go_wp2
      go_ret2
      exact AnP.new (unhide S).bel (unhide hq)
    | true =>
    by_cases h4 : t.length ≤ 40000
    rotate_left
    · have g3 : decide ((40000 : Int) < t.length) = true := by simp; omega
      have hq := hide (show PkQ ns ts [] false from .inr ⟨rfl, rfl, bad_bd (unhide hx) (by omega)⟩)
      clear h4
      go_wp2
      go_ret2
      exact AnP.new (unhide S).bel (unhide hq)
    have g3 : decide ((40000 : Int) < t.length) = false := by simp; omega
    go_upto_region 9 with fail
    go_cut [8] from 22 to 101 (fun s wx => ∃ E, s = .pointer (some ⟨E, 0, none⟩) ∧ Hid (wr.heap.size ≤ E ∧ Bx wx E (ass n t) ∧ Below wr.heap.size wr wx))
    case first =>
      have hall := hide (show SQ wr bn (on + k) bt (ot + k) (.string n) (.slice pt t.length ct) wr from ⟨c0, f0, Below.refl _ _⟩)
      go_region_held3 (fun w' => w'.cell? ⟨bn, on + k, none⟩ = some (.string n) ∧ w'.cell? ⟨bt, ot + k, none⟩ = some (.slice pt t.length ct) ∧ Below wr.heap.size wr w')
        (first | (with_reducible assumption) | (with_reducible exact kq_drew (kq_alloc (unhide hall))) | (with_reducible exact kq_alloc (kq_drew (unhide hall))) | (with_reducible exact kq_drew (unhide hall)) | (with_reducible refine kq_allocd ?_; with_reducible assumption) | (with_reducible refine kq_alloc ?_; with_reducible assumption))
        ((go_at_call 22
          refine (sdig_any pt ct t _ hmx (unhide hyt) ((unhide K).below (by assumption : SQ wr bn (on + k) bt (ot + k) (.string n) (.slice pt t.length ct) _).2.2)).mono ?_
          rintro e w6 ⟨rfl, hw6⟩
          subst hw6))
      all_goals
        go_wp2
        go_meet
        exact ⟨_, rfl, hide ⟨Nat.le_refl _, heap_alloc_new wr _, kq_bel ‹_›⟩⟩
    case rest =>
      obtain ⟨E, h8, hE⟩ := hcut
      subst h8
      have OW := hide (ownsRow_below (unhide S).own (unhide hE).2.2)
      have BW := hide (laterB (unhide S).bel (unhide hE).2.2)
      have hEg := hide (show g ≠ E ∧ E < wc.heap.size from ⟨by have h1 := own_lt (unhide S).own; have h2 := (unhide hE).1; omega, (unhide hE).2.1.lt⟩)
      have hEb := hide (unhide hE).2.1
      have b0 : wc.cell? ⟨E, 0, none⟩ = some (.string n) := (blk3 (unhide hEb)).1
      have b1 : wc.cell? ⟨E, 1, none⟩ = some (.int .i64 t.length) := (blk3 (unhide hEb)).2.1
      have b2 : wc.cell? ⟨E, 2, none⟩ = some (.int .i64 (dig t)) := (blk3 (unhide hEb)).2.2
      have hLk : Hid (L.length = k) := hide (own_len (unhide S).own)
      clear hE K f0 c0
      go_wp2_with (with_reducible refine wpList_kG wc rfl _ _ rfl w.heap.size g k c L n (t.length : Int) (dig t) rfl (unhide OW) rfl (by omega) (unhide BW).size ?_)
      intro g' c' w' o' b' q1 q2
      have P0 := hide (show PI w w' k g' c' E k L (ass n t) (ass n t) from ⟨by have e := shf_end L (ass n t); rw [unhide hLk] at e; rw [e]; exact o', below_grown (unhide BW) b' (own_ge (unhide OW)), by
        show w'.heap[E]? = _
        rw [b'.block E (unhide hEg).2 (by intro e; injection e with e; exact (unhide hEg).1 e.symm)]; exact unhide hEb, by
        rcases q2 with e | e
        · rw [e]; exact (unhide hEg).1
        · have := (unhide hEg).2; omega, fun j z hj hz => by
        have := (List.getElem?_eq_some_iff.1 hz).1
        have := unhide hLk
        omega⟩)
      have hq1 := hide q1
      clear o' b' q1 q2 b0 b1 b2 OW BW hEg hEb
      go_wp2
      go_loopw [9] (fun u wi => ∃ (m : Nat) (y : Kl), m ≤ k ∧ u = .int .i64 m ∧ Hid (PI w wi k g' c' E m L (ass n t) y)) (fun u _ => (intOf u).toNat)
      case atStart => exact ⟨k, _, by omega, rfl, P0⟩
      case round =>
        clear P0
        obtain ⟨m, y, hm, rfl, P⟩ := hrel
        have x0 : wr.cell? ⟨E, 0, none⟩ = some (.string n) := (blk3 (unhide P).bx).1
        by_cases h0 : m = 0
        · have g4 : decide ((0 : Int) < m) = false := by simp; omega
          have g5 : decide (0 < m) = false := by simp; omega
          have hlo := hide (show ∀ (j : Nat) (y : Kl), j < m → L[j]? = some y → bef y.1 n = true from fun j y hj => by omega)
          clear h0
          go_wp2_with fail
          go_quiet (fail)
          generalize hX : World.drewN _ _ = X
          have PX := hide (show PI w X k g' c' E m L (ass n t) y by rw [← hX]; exact (unhide P).drew _)
          clear hX P x0
          have hput := hide ((unhide PX).put (ass n t) (by have := unhide hLk; omega))
          have Sn := hide (PS.next (unhide S) (unhide hnn) (unhide hx) (unhide p1) h4 (unhide hput).1 (unhide hput).2.1 (unhide hlo) (unhide PX).up)
          obtain ⟨o0, o1, o2⟩ := own_cells (shf_at (by have := unhide hLk; omega)) (unhide PX).own
          have z0 := (unhide PX).own.frozenAt (m * 3)
          have z1 := (unhide PX).own.frozenAt (m * 3 + 1)
          have z2 := (unhide PX).own.frozenAt (m * 3 + 2)
          have y0 : X.cell? ⟨E, 0, none⟩ = some (.string n) := (blk3 (unhide PX).bx).1
          have y1 : X.cell? ⟨E, 1, none⟩ = some (.int .i64 t.length) := (blk3 (unhide PX).bx).2.1
          have y2 : X.cell? ⟨E, 2, none⟩ = some (.int .i64 (dig t)) := (blk3 (unhide PX).bx).2.2
          have hEg : E ≠ g' := fun e => (unhide PX).ne e.symm
          generalize y.1 = u0 at *
          generalize y.2.1 = u1 at *
          generalize y.2.2 = u2 at *
          clear hput PX S
          go_wp2
          go_roundw
          case rel => exact ⟨k + 1, g', c', _, by omega, by go_num, by go_num, Sn⟩
          case measure => simp [intOf]; omega

        · obtain ⟨M, hM⟩ : ∃ M, m = M + 1 := ⟨m - 1, by omega⟩
          have hMl : M < L.length := by have := unhide hLk; omega
          obtain ⟨z, hz⟩ : ∃ z, L[M]? = some z := ⟨L[M], List.getElem?_eq_getElem hMl⟩
          obtain ⟨d0, d1, d2⟩ := own_cells (by rw [shf_pre (by have := unhide hLk; omega) (by omega)]; exact hz : (shf L m y)[M]? = some z) (unhide P).own
          have hzs := (unhide S).sz (unhide hne') (List.mem_of_getElem? hz)
          obtain ⟨sz, pz, qz⟩ := z
          simp only at d0 d1 d2 hzs
          have g4 : decide ((0 : Int) < m) = true := by simp; omega
          have g5 : decide (0 < m) = true := by simp; omega
          have hkm : (m : Int) - 1 = (M : Int) := by omega
          have hMk : M < k + 1 := by omega
          have hM' := hide hM
          have hz := hide hz
          clear hM h0 hMl
          obtain ⟨vb, hvb⟩ : ∃ v, bef sz n = v := ⟨_, rfl⟩
          have pb := hide hvb
          cases vb with
          | true =>
            have hlo := hide (show ∀ (j : Nat) (y : Kl), j < m → L[j]? = some y → bef y.1 n = true by rw [unhide hM']; exact rise_pre (x := ass n t) (unhide S).rise (unhide hz) (unhide pb))
            clear pb
            go_wp2_with fail
            go_quiet ((go_at_call 23; exact Calls.quiet_of (sbef_any _ _ _ hzs hns)))
            generalize hX : World.drewN _ _ = X
            have PX := hide (show PI w X k g' c' E m L (ass n t) y by rw [← hX]; exact (unhide P).drew _)
            clear hX P x0 d0 d1 d2 hvb
            have hput := hide ((unhide PX).put (ass n t) (by have := unhide hLk; omega))
            have Sn := hide (PS.next (unhide S) (unhide hnn) (unhide hx) (unhide p1) h4 (unhide hput).1 (unhide hput).2.1 (unhide hlo) (unhide PX).up)
            obtain ⟨o0, o1, o2⟩ := own_cells (shf_at (by have := unhide hLk; omega)) (unhide PX).own
            have z0 := (unhide PX).own.frozenAt (m * 3)
            have z1 := (unhide PX).own.frozenAt (m * 3 + 1)
            have z2 := (unhide PX).own.frozenAt (m * 3 + 2)
            have y0 : X.cell? ⟨E, 0, none⟩ = some (.string n) := (blk3 (unhide PX).bx).1
            have y1 : X.cell? ⟨E, 1, none⟩ = some (.int .i64 t.length) := (blk3 (unhide PX).bx).2.1
            have y2 : X.cell? ⟨E, 2, none⟩ = some (.int .i64 (dig t)) := (blk3 (unhide PX).bx).2.2
            have hEg : E ≠ g' := fun e => (unhide PX).ne e.symm
            generalize y.1 = u0 at *
            generalize y.2.1 = u1 at *
            generalize y.2.2 = u2 at *
            clear hput PX S
            go_wp2
            go_roundw
            case rel => exact ⟨k + 1, g', c', _, by omega, by go_num, by go_num, Sn⟩
            case measure => simp [intOf]; omega
          | false =>
            go_wp2_with fail
            go_quiet ((go_at_call 23; exact Calls.quiet_of (sbef_any _ _ _ hzs hns)))
            cases he : (sz.toList == n.toList) with
            | true =>
              have hq := hide (show PkQ ns ts [] false from .inr ⟨rfl, rfl, bad_two (unhide hnn) (unhide S).perm (unhide hz) he⟩)
              go_wp2_with fail
              go_quiet (fail)
              generalize hX : World.drewN _ _ = X
              have BX := hide (show Below w.heap.size w X by rw [← hX]; exact below_drewN (below_drewN (unhide P).bel _) _)
              clear hX
              go_wp2
              go_ret2
              exact AnP.new (unhide BX) (unhide hq)
            | false =>
              go_wp2_with fail
              go_quiet (fail)
              generalize hX : World.drewN _ _ = X
              have PX := hide (show PI w X k g' c' E m L (ass n t) y by rw [← hX]; exact ((unhide P).drew _).drew _)
              have e0 : X.cell? ⟨g', M * 3, none⟩ = some (.string sz) := by rw [← hX]; exact d0
              have e1 : X.cell? ⟨g', M * 3 + 1, none⟩ = some (.int .i64 pz) := by rw [← hX]; exact d1
              have e2 : X.cell? ⟨g', M * 3 + 2, none⟩ = some (.int .i64 qz) := by rw [← hX]; exact d2
              have hput := hide ((unhide PX).put (sz, pz, qz) (by have := unhide hLk; omega))
              have PY := hide (show PI w _ k g' c' E M L (ass n t) (sz, pz, qz) from ⟨by have h1 := (unhide hput).1; rw [show shf L m (sz, pz, qz) = shf L M (sz, pz, qz) by rw [unhide hM']; exact shf_dec (by have := unhide hLk; have := unhide hM'; omega) (unhide hz)] at h1; exact h1, (unhide hput).2.1, (unhide hput).2.2, (unhide PX).ne, fun j z hj hjz => by
                by_cases ej : j = M
                · subst ej
                  rw [unhide hz] at hjz
                  injection hjz with hjz
                  subst hjz
                  exact bef_tot (unhide pb) he
                · exact (unhide PX).up j z (by have := unhide hM'; omega) hjz⟩)
              obtain ⟨o0, o1, o2⟩ := own_cells (shf_at (by have := unhide hLk; omega)) (unhide PX).own
              have z0 := (unhide PX).own.frozenAt (m * 3)
              have z1 := (unhide PX).own.frozenAt (m * 3 + 1)
              have z2 := (unhide PX).own.frozenAt (m * 3 + 2)
              generalize y.1 = u0 at *
              generalize y.2.1 = u1 at *
              generalize y.2.2 = u2 at *
              have hMm : M < m := by have := unhide hM'; omega
              clear hput PX hX P x0 d0 d1 d2 hvb he
              go_wp2
              go_roundw
              case rel => exact ⟨M, _, by omega, by go_num, PY⟩
              case measure => simp [intOf]; omega

end Go.Proofs.Ytghglpcfpokmhaa

namespace Go.Proofs.Ytghglpcfpokmhaa
open Go.RowKit
set_option linter.unusedVariables false
set_option linter.unusedSimpArgs false

theorem eql3 (s s' : ByteArray) (p q p' q' : Int) (w : World) : (binOp .eql 38 (ag3 s p q) (ag3 s' p' q')).run Try.prog w = .ok (.bool (kEq (s, p, q) (s', p', q'))) w := by
  cases h1 : (s.toList == s'.toList) <;> cases h2 : (p == p') <;> cases h3 : (q == q') <;> (simp only [kEq, h1, h2, h3]; go_simp; try rfl)
theorem neq3 (s s' : ByteArray) (p q p' q' : Int) (w : World) : (binOp .neq 38 (ag3 s p q) (ag3 s' p' q')).run Try.prog w = .ok (.bool (!kEq (s, p, q) (s', p', q'))) w := by
  cases h1 : (s.toList == s'.toList) <;> cases h2 : (p == p') <;> cases h3 : (q == q') <;> (simp only [kEq, h1, h2, h3]; go_simp; try rfl)

end Go.Proofs.Ytghglpcfpokmhaa

namespace Go.Proofs
open Go.Shelf
def Try.laysM316_ren : Go.Shelf.Ren := ⟨fun | 316 => 35 | n => n, fun | 9 => 9 | 3 => 3 | 4 => 4 | 37 => 22 | 0 => 0 | 127 => 93 | 5 => 5 | n => n, fun | n => n⟩
theorem Try.laysM316 : Go.Proofs.LaysM.n316 Try.prog Try.laysM316_ren := {
  mixed := by kernel_rfl
  f316 := Try.func35.trans (congrArg some (by kernel_rfl))
  t0 := Try.underlying0
  a0 := Try.isAgg0
  z0 := Try.sizeOf0
  v0 := Try.zeroValue0
  t3 := Try.underlying3
  a3 := Try.isAgg3
  z3 := Try.sizeOf3
  v3 := Try.zeroValue3
  t4 := Try.underlying4
  a4 := Try.isAgg4
  z4 := Try.sizeOf4
  v4 := Try.zeroValue4
  t9 := Try.underlying9
  a9 := Try.isAgg9
  z9 := Try.sizeOf9
  v9 := Try.zeroValue9
  t37 := Try.underlying22
  a37 := Try.isAgg22
  z37 := Try.sizeOf22
  v37 := Try.zeroValue22
  t127 := Try.underlying93
  a127 := Try.isAgg93
  z127 := Try.sizeOf93
  v127 := Try.zeroValue93
  t5 := Try.underlying5
  a5 := Try.isAgg5
  z5 := Try.sizeOf5
  v5 := Try.zeroValue5
  i0 := by kernel_rfl
  i3 := by kernel_rfl
  i4 := by kernel_rfl
  i5 := by kernel_rfl
  i9 := by kernel_rfl
  i37 := by kernel_rfl
  i127 := by kernel_rfl }
open Go.RowKit in
theorem Try.stringslite_Clone (s : ByteArray) (w : World) (hlim : s.size ≤ 281474976710656) :
    Calls Try.prog 35 #[.string s] w fun e w' => e = .returned (.string s) ∧ Below w.heap.size w w' := Any.stringslite_Clone Try.laysM316 s w hlim

end Go.Proofs
