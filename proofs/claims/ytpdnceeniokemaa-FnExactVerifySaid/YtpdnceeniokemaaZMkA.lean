/-
  impl.Pack beside leavers.
  Plain facts on decimal digits: the digits of a whole number from 0 on, and of one in at least so many digits. No program is named here; there are no conditions.
  The text of a mark: its contract; how the law writes marks into a list of strings and into a list of assets, and looks for them again.
  How the law writes marks into a list of assets, and looks for them again: the contracts.
-/
import Derived.Test.YtpdnceeniokemaaZPb
import Derived.WalkKit
import Derived.Test.YtpdnceeniokemaaZSt
import Derived.Test.YtpdnceeniokemaaZCopyL
set_option linter.unusedVariables false
set_option linter.unusedSimpArgs false
namespace Go.Proofs.Ytpdnceeniokemaa
open Go Go.Conc Go.RowKit
open Go.Proofs.Ytpdnceeniokemaa.Bb (Tks)
open Go.Proofs.Ytpdnceeniokemaa.Wk (El BodiesV Bel dig_B valsE)
open Go.Proofs.Ytpdnceeniokemaa.Br (BT BTS Hd Pz Pst CallsB bt_ctl bt_cons bt_skip bt_callB rt)
theorem bodiesV_bel {w w' : World} {zs : List El} {d : Option Addr} (h : BodiesV w zs d) (hb : ∀ k, k < w.heap.size → w'.heap[k]? = w.heap[k]?) (hsz : w.heap.size ≤ w'.heap.size) : BodiesV w' zs d := by
  refine ⟨fun j e he => ?_, fun e he => ?_⟩
  · obtain ⟨b, o, h1, h2, h3⟩ := h.el j e he
    exact ⟨b, o, h1, Nat.lt_of_lt_of_le h2 hsz, (World.cell?_of_block (hb b h2)).trans h3⟩
  · obtain ⟨h1, h2, h3, h4⟩ := h.body e he
    refine ⟨fun j x hx => ?_, h2, h3, h4⟩
    obtain ⟨b, o, h5, h6, h7⟩ := h1 j x hx
    exact ⟨b, o, h5, Nat.lt_of_lt_of_le h6 hsz, (World.cell?_of_block (hb b h6)).trans h7⟩
theorem bodiesV_tks {w : World} {zs : List El} {d : Option Addr} (h : BodiesV w zs d) : Tks w d (zs.map (·.l)) := by
  intro j t ht
  rw [List.getElem?_map] at ht
  obtain ⟨e, he, rfl⟩ := Option.map_eq_some_iff.1 ht
  obtain ⟨b, o, h1, h2, h3⟩ := h.el j e he
  obtain ⟨h4, h5, h6, h7⟩ := h.body e (List.mem_of_getElem? he)
  exact ⟨b, o, e.p, e.cap, h1, h2, h3, h4, Nat.le_trans h6 h7⟩
theorem own_made {w : World} {n : Nat} (hn : n ≤ 1048576) : Own (w.alloc (.cells (madeCells #[.string ⟨#[]⟩, .int .i64 0, .int .i64 0] (n * 3)) 79)) w.heap.size w.heap.size 0 n [] := by
  refine ⟨rfl, .inr ⟨w.heap.size, n, _, rfl, Nat.le_refl _, heap_alloc_new w _, Nat.zero_le _, by unfold maxLen; omega, by simp [size_madeCells], ?_⟩⟩
  simp [flK]
set_option maxRecDepth 100000 in
set_option maxHeartbeats 4000000 in
theorem ipack_yes [Br.Thr] (b d : Option Addr) (cb cd : Nat) (ns : List ByteArray) (zs : List El) (w : World) (hne : ns.length = zs.length) (h100 : ns.length ≤ 100) (hz : ∀ n ∈ ns, n.size ≤ 1048576) (hs : Sts w b ns) (hB : BodiesV w zs d) (hg : Br.GC Try.prog w) (hTh : Br.Thr.N ≤ w.heap.size) :
    CallsB Try.prog 31 #[.slice b ns.length cb, .slice d zs.length cd] w (RPk w ns (zs.map (·.l))) := by
  intro c cs Q hk
  have e31 : Frame.enter Try.prog 31 #[.slice b ns.length cb, .slice d zs.length cd] .normal = (base 31).at ⟨#[.slice b ns.length cb, .slice d zs.length cd] ++ Array.replicate 52 undef, []⟩ [.code (Try.f31.body.getD .skip)] := by
    simp [Frame.enter, Frame.at, Try.func31, base, Try.f31]
  rw [e31]
  clear e31
  simp only [Try.f31, Option.getD_some, List.size_toArray, List.length_cons, List.length_nil, Nat.reduceAdd, Nat.reduceSub, Array.replicate_succ, Array.replicate_zero, List.push_toArray, List.append_toArray, List.nil_append, List.cons_append]
  have g0 : ((ns.length : Int) != zs.length) = false := by simp; omega
  have g1 : decide ((100 : Int) < ns.length) = false := by simp; omega
  obtain ⟨i0, hi, hz0, hz1, hz2⟩ := info_parts info44
  have hneH := hide hne
  clear hne
  (repeat (first | (first | refine bt_ctl rfl (fun _ => stepG_seq) ?_ | refine bt_ctl rfl (fun _ => stepG_skip) ?_ | refine bt_ctl rfl (fun _ => stepG_region_end) ?_ | refine bt_ctl rfl (fun _ => stepG_ret') ?_ | (refine bt_ctl rfl (fun _ => stepG_region) ?_; simp only [List.size_toArray, List.length_cons, List.length_nil, Nat.reduceAdd, Nat.zero_add, List.range, List.range.loop])) | (refine bt_cons zgOk.bodied rfl (by rfl) (by decide) (by decide) (fun dzz Kzz hKzz => ?_); go_simp; refine hKzz _ _ (fun b hb => hb) (bt_at ?_); clear hKzz Kzz; try walk_nrm) | (refine bt_skip rfl (by rfl) ?_; try walk_nrm)))
  (refine bt_ctl rfl (fun _ => stepG_cond (t := false) rfl) ?_; simp only [if_true, if_false, Bool.false_eq_true, ↓reduceIte])
  (repeat (first | (first | refine bt_ctl rfl (fun _ => stepG_seq) ?_ | refine bt_ctl rfl (fun _ => stepG_skip) ?_ | refine bt_ctl rfl (fun _ => stepG_region_end) ?_ | refine bt_ctl rfl (fun _ => stepG_ret') ?_ | (refine bt_ctl rfl (fun _ => stepG_region) ?_; simp only [List.size_toArray, List.length_cons, List.length_nil, Nat.reduceAdd, Nat.zero_add, List.range, List.range.loop])) | (refine bt_cons zgOk.bodied rfl (by rfl) (by decide) (by decide) (fun dzz Kzz hKzz => ?_); go_simp; refine hKzz _ _ (fun b hb => hb) (bt_at ?_); clear hKzz Kzz; try walk_nrm) | (refine bt_skip rfl (by rfl) ?_; try walk_nrm)))
  have hmk := fun w => run_make (P := Try.prog) w 37 79 i0 (.agg #[.string ⟨#[]⟩, .int .i64 0, .int .i64 0]) Try.underlying37 hi hz0 .i64 .i64 0 ns.length (by omega) (by omega) (by rw [hz2]; omega) (by omega)
  refine bt_cons zgOk.bodied rfl (by rfl) (by decide) (by decide) (fun dzz Kzz hKzz => ?_)
  go_simp
  refine hKzz _ ((w.alloc (.cells (madeCells #[.string ⟨#[]⟩, .int .i64 0, .int .i64 0] (ns.length * 3)) 79)).at dzz) (fun b hb => Wk.pz_alloc _ hb) (bt_at ?_)
  clear hKzz Kzz hmk hi hz0 hz1 hz2
  have hsz : ∀ d, (w.at d).heap.size = w.heap.size := fun _ => rfl
  simp only [hsz]
  clear hsz
  have om := hide (own_made (w := w) (n := ns.length) (by omega))
  have bm := hide (show ∀ k, k < w.heap.size → (w.alloc (.cells (madeCells #[.string ⟨#[]⟩, .int .i64 0, .int .i64 0] (ns.length * 3)) 79)).heap[k]? = w.heap[k]? from fun k hk' => Below.heap_alloc _ _ _ hk')
  have sm := hide (show (w.alloc (.cells (madeCells #[.string ⟨#[]⟩, .int .i64 0, .int .i64 0] (ns.length * 3)) 79)).heap.size = w.heap.size + 1 by simp)
  have om1 := hide (show (w.alloc (.cells (madeCells #[.string ⟨#[]⟩, .int .i64 0, .int .i64 0] (ns.length * 3)) 79)).os = w.os ∧ (w.alloc (.cells (madeCells #[.string ⟨#[]⟩, .int .i64 0, .int .i64 0] (ns.length * 3)) 79)).output = w.output from ⟨rfl, rfl⟩)
  generalize w.alloc (.cells (madeCells #[.string ⟨#[]⟩, .int .i64 0, .int .i64 0] (ns.length * 3)) 79) = wm at *
  have Bm := hide (show Bel w.heap.size w wm from ⟨(unhide om1).1, (unhide om1).2, by have := unhide sm; omega, unhide bm⟩)
  try walk_nrm
  (repeat (first | (first | refine bt_ctl rfl (fun _ => stepG_seq) ?_ | refine bt_ctl rfl (fun _ => stepG_skip) ?_ | refine bt_ctl rfl (fun _ => stepG_region_end) ?_ | refine bt_ctl rfl (fun _ => stepG_ret') ?_ | (refine bt_ctl rfl (fun _ => stepG_region) ?_; simp only [List.size_toArray, List.length_cons, List.length_nil, Nat.reduceAdd, Nat.zero_add, List.range, List.range.loop])) | (refine bt_cons zgOk.bodied rfl (by rfl) (by decide) (by decide) (fun dzz Kzz hKzz => ?_); go_simp; refine hKzz _ _ (fun b hb => hb) (bt_at ?_); clear hKzz Kzz; try walk_nrm) | (refine bt_skip rfl (by rfl) ?_; try walk_nrm)))
  refine bt_callB (dig_B (w := wm) (zs := zs) (n := zs.length) (cap := cd) (a0 := d) rfl (by have := unhide hneH; omega) (bodiesV_bel hB (unhide bm) (by have := unhide sm; omega)) (gc_bel (unhide Bm) hg) (Nat.le_trans hTh (unhide Bm).size)) Try.func66 (by kernel_rfl) (by kernel_rfl) rfl (by rfl) rfl (by decide) (by simp [Act.eval]) ?_
  rintro v w2 ⟨rfl, hsum, hbel⟩
  have hsm := unhide sm
  have hBel : Bel w.heap.size w w2 := ⟨hbel.os.trans (unhide Bm).os, hbel.output.trans (unhide Bm).output, Nat.le_trans (unhide Bm).size hbel.size, fun k hk' => (hbel.block k (by omega)).trans ((unhide bm) k hk')⟩
  have hO2 : Own w2 w.heap.size w.heap.size 0 ns.length [] := by
    obtain ⟨h1, h2⟩ := unhide om
    refine ⟨h1, ?_⟩
    rcases h2 with ⟨hv, _⟩ | ⟨g', cap', cur, hv, hB', hh, r⟩
    · cases hv
    · refine .inr ⟨g', cap', cur, hv, hB', (hbel.block g' (Array.getElem?_eq_some_iff.1 hh).1).trans hh, r⟩
  have hlt2 : wm.heap.size < w2.heap.size := (Array.getElem?_eq_some_iff.1 hsum).1
  have hsums : ∀ j t, (zs.map (·.l))[j]? = some t → w2.cell? ⟨wm.heap.size, j, none⟩ = some (.int .i64 (dig t)) := fun j t ht => by
    rw [List.getElem?_map] at ht
    obtain ⟨e, he, rfl⟩ := Option.map_eq_some_iff.1 ht
    have hj := (List.getElem?_eq_some_iff.1 he).1
    have hv : (valsE zs zs.length)[j]? = some (.int .i64 (dig e.l)) := by rw [Wk.valsE_get j hj]; simp [Wk.val, he]
    simp [World.cell?, hsum, hv]
  have H1 := hide hBel
  have H2 := hide hO2
  have H3 := hide hlt2
  have H4 := hide hsums
  have H5 := hide hsm
  clear hBel hO2 hlt2 hsums hsm hsum hbel om bm sm om1 Bm
  try walk_nrm
  (repeat (first | (first | refine bt_ctl rfl (fun _ => stepG_seq) ?_ | refine bt_ctl rfl (fun _ => stepG_skip) ?_ | refine bt_ctl rfl (fun _ => stepG_region_end) ?_ | refine bt_ctl rfl (fun _ => stepG_ret') ?_ | (refine bt_ctl rfl (fun _ => stepG_region) ?_; simp only [List.size_toArray, List.length_cons, List.length_nil, Nat.reduceAdd, Nat.zero_add, List.range, List.range.loop])) | (refine bt_cons zgOk.bodied rfl (by rfl) (by decide) (by decide) (fun dzz Kzz hKzz => ?_); go_simp; refine hKzz _ _ (fun b hb => hb) (bt_at ?_); clear hKzz Kzz; try walk_nrm) | (refine bt_skip rfl (by rfl) ?_; try walk_nrm)))
  have e2 : (zs.map (·.l)).length = zs.length := by simp
  have hT := bodiesV_tks hB
  have hL : ns.length = (zs.map (·.l)).length := by rw [e2]; exact unhide hneH
  have key := pack_end (Q := Q) (c := c) (cs := cs) b d cb cd ns (zs.map (·.l)) w w2 w.heap.size wm.heap.size hL h100 hz hs hT hg (unhide H1) (unhide H2) (unhide H4) (unhide H3) (by have := unhide H5; omega) hk
  rw [e2] at key
  have e3 := (unhide hneH).symm
  rw [e3] at key ⊢
  exact key _ _ _ _ _ _ _ _ _ _ _ _ _ _ _ _ _ _ _ _ _ _ _ _ _ _ _ _ _ _ _ _ _ _ _ _ _ _ _ _ _ _ _ _ _ _ _ _
theorem ipack_B [Br.Thr] (b d : Option Addr) (cb cd : Nat) (ns : List ByteArray) (zs : List El) (w : World) (hz : ∀ n ∈ ns, n.size ≤ 1048576) (hs : Sts w b ns) (hB : BodiesV w zs d) (hg : Br.GC Try.prog w) (hTh : Br.Thr.N ≤ w.heap.size) :
    CallsB Try.prog 31 #[.slice b ns.length cb, .slice d zs.length cd] w (RPk w ns (zs.map (·.l))) := by
  by_cases hne : ns.length = zs.length
  · by_cases h100 : ns.length ≤ 100
    · exact ipack_yes b d cb cd ns zs w hne h100 hz hs hB hg hTh
    · exact ipack_no2 b d cb cd ns zs w hne h100
  · exact ipack_no1 b d cb cd ns zs w hne
end Go.Proofs.Ytpdnceeniokemaa

namespace Go.Proofs.Ytpdnceeniokemaa.Pl

def dg (n : Nat) : UInt8 := UInt8.ofNat (48 + n % 10)
theorem dg_toNat (n : Nat) : (dg n).toNat = 48 + n % 10 := by unfold dg; simp; omega

def decF : Nat → Nat → List UInt8
  | 0, _ => []
  | k + 1, n => if n < 10 then [dg n] else decF k (n / 10) ++ [dg n]
def dec (n : Nat) : List UInt8 := decF (n + 1) n
theorem decF_enough : ∀ (f g n : Nat), n < f → n < g → decF f n = decF g n := by
  intro f
  induction f with
  | zero => intro g n h; omega
  | succ f ih =>
    intro g n h1 h2
    cases g with
    | zero => omega
    | succ g =>
      unfold decF
      by_cases h : n < 10
      · rw [if_pos h, if_pos h]
      · rw [if_neg h, if_neg h, ih g (n / 10) (by omega) (by omega)]
theorem dec_small {n : Nat} (h : n < 10) : dec n = [dg n] := by unfold dec decF; rw [if_pos h]
theorem dec_step {n : Nat} (h : 10 ≤ n) : dec n = dec (n / 10) ++ [dg n] := by
  unfold dec
  rw [decF, if_neg (by omega), decF_enough n (n / 10 + 1) (n / 10) (by omega) (by omega)]
/-- the digits of what is left ahead of what is there; nothing of 0 -/
def decOn (x : Nat) (acc : List UInt8) : List UInt8 := if x = 0 then acc else dec x ++ acc
theorem decOn_step {x : Nat} (acc : List UInt8) (h : x ≠ 0) : decOn (x / 10) (dg x :: acc) = decOn x acc := by
  unfold decOn
  rw [if_neg h]
  by_cases h1 : x < 10
  · rw [if_pos (by omega), dec_small h1]; rfl
  · rw [if_neg (by omega), dec_step (n := x) (by omega)]; simp
theorem decOn_first (n : Nat) : decOn (n / 10) [dg n] = dec n := by
  by_cases h : n = 0
  · subst h; rfl
  · rw [decOn_step [] h, decOn, if_neg h, List.append_nil]
theorem dec_length_lt : ∀ (k n : Nat), n < 10 ^ (k + 1) → (dec n).length ≤ k + 1 := by
  intro k
  induction k with
  | zero => intro n h; rw [dec_small (by simpa using h)]; simp
  | succ k ih =>
    intro n h
    by_cases h1 : n < 10
    · rw [dec_small h1]; simp
    · rw [dec_step (by omega)]
      have := ih (n / 10) (by rw [Nat.pow_succ] at h; omega)
      simp; omega
theorem dec_ne (n : Nat) : dec n ≠ [] := by
  by_cases h : n < 10
  · rw [dec_small h]; simp
  · rw [dec_step (by omega)]; simp

/-- in at least k digits -/
def wide (k n : Nat) : List UInt8 := List.replicate (k - (dec n).length) 48 ++ dec n
def two (n : Nat) : List UInt8 := [dg (n / 10), dg n]
def three (n : Nat) : List UInt8 := [dg (n / 100), dg (n / 10), dg n]
theorem dec_two {n : Nat} (h : 10 ≤ n) (h2 : n < 100) : dec n = [dg (n / 10), dg n] := by rw [dec_step h, dec_small (by omega)]; rfl
theorem dec_three {n : Nat} (h : 100 ≤ n) (h2 : n < 1000) : dec n = [dg (n / 100), dg (n / 10), dg n] := by
  rw [dec_step (by omega), dec_two (by omega) (by omega), show n / 10 / 10 = n / 100 by omega]; rfl
theorem dg_zero {n : Nat} (h : n % 10 = 0) : dg n = 48 := by unfold dg; rw [h]; rfl
theorem wide_two {n : Nat} (h : n < 100) : wide 2 n = two n := by
  unfold wide two
  by_cases h1 : n < 10
  · rw [dec_small h1, dg_zero (n := n / 10) (by omega)]; rfl
  · rw [dec_two (by omega) h]; rfl
theorem wide_three {n : Nat} (h : n < 1000) : wide 3 n = three n := by
  unfold wide three
  by_cases h1 : n < 10
  · rw [dec_small h1, dg_zero (n := n / 10) (by omega), dg_zero (n := n / 100) (by omega)]; rfl
  by_cases h2 : n < 100
  · rw [dec_two (by omega) h2, dg_zero (n := n / 100) (by omega)]; rfl
  · rw [dec_three (by omega) h]; rfl

end Go.Proofs.Ytpdnceeniokemaa.Pl

namespace Go.Proofs.Ytpdnceeniokemaa
open Go.RowKit
set_option linter.unusedVariables false
set_option linter.unusedSimpArgs false

theorem conv1 (x : Nat) (w : World) : (convert 22 9 (.slice (some ⟨w.heap.size, 0, none⟩) 1 1)).run Try.prog (w.alloc (.cells #[.int .u8 (48 + (x : Int) % 10)] 5)) = .ok (.string ⟨#[Pl.dg x]⟩) (w.alloc (.cells #[.int .u8 (48 + (x : Int) % 10)] 5)) := by
  refine run_convert_bytes_back (P := Try.prog) _ 22 9 5 ⟨w.heap.size, 0, none⟩ 1 [Pl.dg x] Try.underlying22 Try.underlying5 Try.underlying9 (fun j hj => ?_)
  match j, hj with
  | 0, _ => simp [Addr.add, Pl.dg_toNat]
theorem str_cons (c : UInt8) (l : List UInt8) : (⟨#[c]⟩ : ByteArray) ++ ⟨l.toArray⟩ = ⟨(c :: l).toArray⟩ := ByteArray.mk_append_mk [c] l
/-- the text of a mark -/
def mkT (z : Int) : ByteArray := ⟨(109 :: Pl.dec z.toNat).toArray⟩
set_option maxHeartbeats 400000 in
theorem mtext_any (q : Int) (w : World) (h1 : 1 ≤ q) (hn : q ≤ 9223372036854775807) :
    Calls Try.prog 70 #[.int .i64 q] w fun e w' => e = .returned (.string (mkT q)) ∧ Below w.heap.size w w' := by
  obtain ⟨n, rfl⟩ := Int.eq_ofNat_of_zero_le (show 0 ≤ q by omega)
  have hfin := hide (show mkT (n : Int) = ⟨(109 :: Pl.dec n).toArray⟩ by unfold mkT; simp)
  have h0 : decide ((n : Int) ≤ 0) = false := decide_eq_false (by omega)
  have h0n : decide (n = 0) = false := decide_eq_false (by omega)
  go_enter Try.func70, Try.ntmps70
  go_wp2
  go_loopw [0, 3] (fun t s wr => ∃ (x : Nat) (acc : List UInt8), t = .int .i64 x ∧ s = .string ⟨acc.toArray⟩ ∧ x ≤ n ∧ acc.length ≤ 9223372036854775807 - x - 1 ∧ Hid (Pl.decOn x acc = Pl.dec n) ∧ Below w.heap.size w wr) (fun t _ _ => (intOf t).toNat)
  case atStart => exact ⟨n, [], rfl, rfl, Nat.le_refl _, by simp, hide (by unfold Pl.decOn; rw [if_neg (by omega)]; simp), Below.refl _ _⟩
  case round =>
    obtain ⟨x, acc, rfl, rfl, hx, hl, hd, hb⟩ := hrel
    have kc := conv1 x
    by_cases hz : 0 < x
    · go_wp2
      go_roundw
      case rel => exact ⟨x / 10, Pl.dg x :: acc, by go_num, by rw [str_cons], by omega, by simp; omega, hide (by rw [Pl.decOn_step acc (by omega)]; exact unhide hd), hb.alloc hb.size _⟩
      case measure => simp [intOf]; omega
    · have hz' : x = 0 := by omega
      have hf2 : Hid (acc = Pl.dec n) := hide (by have := unhide hd; rw [hz'] at this; simpa [Pl.decOn] using this)
      subst hz'
      go_wp2
      go_ret
      refine ⟨?_, hb⟩
      rw [unhide hfin, ← unhide hf2, str_cons]
      rfl

theorem grown_below {w w1 w2 : World} {g : Option Nat} (h : w.grownBy w1 g) (hb : Below w1.heap.size w1 w2) : w.grownBy w2 g :=
  grown_trans h ⟨hb.os, hb.tape, hb.output, hb.size, fun j hj _ => hb.block j hj⟩
/-- the first i cells bear the marks from q on -/
def MkS (q : Int) (i : Nat) (xs : List Value) : Prop := ∀ j, j < i → xs[j]? = some (sv (mkT (q + j)))
theorem MkS.set {q : Int} {i : Nat} {xs : List Value} (h : MkS q i xs) (hi : i < xs.length) : MkS q (i + 1) (xs.set i (sv (mkT (q + i)))) := by
  intro j hj
  by_cases e : j = i
  · subst e; simp [hi]
  · rw [List.getElem?_set_ne (by omega)]; exact h j (by omega)
set_option maxHeartbeats 800000 in
theorem markS_any (B g n cap : Nat) (q : Int) (xs : List Value) (w : World) (hn : n ≤ 10000000) (q0 : 1 ≤ q) (q1 : q ≤ 100000000) (h : w.ownsRow B 9 1 (.slice (some ⟨g, 0, none⟩) n cap) n xs) :
    Calls Try.prog 34 #[.slice (some ⟨g, 0, none⟩) n cap, .int .i64 q] w fun e w' => e = .returned (.int .i64 (q + n)) ∧ (∃ ys, w'.ownsRow B 9 1 (.slice (some ⟨g, 0, none⟩) n cap) n ys ∧ MkS q n ys) ∧ w.grownBy w' (some g) := by
  have h' := hide h
  clear h
  go_enter Try.func34, Try.ntmps34
  go_wp2
  go_loopw [1, 5] (fun s t wr => ∃ k : Nat, k ≤ n ∧ t = .int .i64 k ∧ s = .int .i64 (q + k) ∧ Hid (∃ ys, wr.ownsRow B 9 1 (.slice (some ⟨g, 0, none⟩) n cap) n ys ∧ MkS q k ys) ∧ Hid (w.grownBy wr (some g))) (fun _ t _ => n - (intOf t).toNat)
  case atStart => exact ⟨0, by omega, rfl, by simp, hide ⟨xs, unhide h', fun j hj => by omega⟩, hide (grown_refl _ _)⟩
  case round =>
    obtain ⟨k, hk, rfl, rfl, hown, hg⟩ := hrel
    by_cases hlt : k < n
    · go_wp2_with fail
      refine (mtext_any (q + k) _ (by omega) (by omega)).mono ?_
      rintro e w1 ⟨rfl, k1⟩
      obtain ⟨ys, hy, hm⟩ := unhide hown
      have hy1 := ownsRow_below hy k1
      obtain ⟨v, c0, f0, _, hl⟩ := own_at (i := k) hy1 (by omega)
      have hnew := hide (show ∃ ys, (w1.setCell ⟨g, k, none⟩ (.string (mkT (q + k)))).ownsRow B 9 1 (.slice (some ⟨g, 0, none⟩) n cap) n ys ∧ MkS q (k + 1) ys from ⟨_, (hy1.stored k (sv (mkT (q + k)))).1, hm.set (by omega)⟩)
      have hG2 := hide (grown_set (v := .string (mkT (q + k))) (i := k) (grown_below (unhide hg) k1))
      clear hown hy hm hl hy1 k1
      go_wp2
      go_roundw
      case rel => exact ⟨k + 1, by omega, by go_num, by go_num, hnew, hG2⟩
      case measure => simp [intOf]; omega
    · have hke : k = n := by omega
      have hf : Hid (∃ ys, wr.ownsRow B 9 1 (.slice (some ⟨g, 0, none⟩) n cap) n ys ∧ MkS q n ys) := hide (by have := unhide hown; rw [hke] at this; exact this)
      clear hown
      go_wp2
      go_ret
      exact ⟨ret_int (by omega), unhide hf, unhide hg⟩

theorem keep1 {w w0 w1 : World} {a : Addr} {v : Value} (h : w0.cell? a = some v ∧ Below w.heap.size w w0) (hb : Below w0.heap.size w0 w1) : w1.cell? a = some v ∧ Below w.heap.size w w1 := ⟨cell_later hb h.1, laterB h.2 hb⟩
theorem keep1d {w w0 : World} {a : Addr} {v : Value} (h : w0.cell? a = some v ∧ Below w.heap.size w w0) : w0.drew.cell? a = some v ∧ Below w.heap.size w w0.drew := ⟨h.1, h.2.drew⟩
set_option maxHeartbeats 1600000 in
theorem heldS_any (B g n cap : Nat) (q : Int) (xs : List Value) (w : World) (hn : n ≤ 10000000) (q0 : 1 ≤ q) (q1 : q ≤ 100000000) (h : w.ownsRow B 9 1 (.slice (some ⟨g, 0, none⟩) n cap) n xs) (hm : MkS q n xs) :
    Calls Try.prog 45 #[.slice (some ⟨g, 0, none⟩) n cap, .int .i64 q] w fun e w' => e = .returned (.int .i64 (q + n)) ∧ Below w.heap.size w w' := by
  have h' := hide h
  have hm' := hide hm
  clear h hm
  go_enter Try.func45, Try.ntmps45
  go_wp2
  go_loopw [1, 5] (fun s t wr => ∃ k : Nat, k ≤ n ∧ t = .int .i64 k ∧ s = .int .i64 (q + k) ∧ Hid (Below w.heap.size w wr)) (fun _ t _ => n - (intOf t).toNat)
  case atStart => exact ⟨0, by omega, rfl, by simp, hide (Below.refl _ _)⟩
  case round =>
    obtain ⟨k, hk, rfl, rfl, hb⟩ := hrel
    by_cases hlt : k < n
    · have hy := ownsRow_below (unhide h') (unhide hb)
      obtain ⟨v0, c0, f0, hv0, hl0⟩ := own_at (i := k) hy (by omega)
      rw [unhide hm' k hlt] at hv0
      cases hv0
      have hall := hide (show wr.cell? ⟨g, k, none⟩ = some (.string (mkT (q + k))) ∧ Below w.heap.size w wr from ⟨c0, unhide hb⟩)
      have hmt := hide (fun w => mtext_any (q + k) w (by omega) (by omega))
      have hww : IntKind.i64.wrap (q + k) = q + k := by rw [IntKind.wrap_i64]; omega
      generalize mkT (q + k) = M at *
      clear hy f0 hl0 hb
      go_wp2_with fail
      go_region_held3 (fun w' => w'.cell? ⟨g, k, none⟩ = some (.string M) ∧ Below w.heap.size w w')
        (first | (refine keep1 ?_ hb; assumption) | (exact keep1d (unhide hall)))
        ((go_at_call 70; refine (unhide hmt _).mono ?_; rintro e w1 ⟨rfl, hb⟩))
      go_wp2
      go_roundw
      case rel => exact ⟨k + 1, by omega, by go_num, by go_num, by rename_i hH; exact hide hH.2⟩
      case measure => simp [intOf]; omega
    · have hke : k = n := by omega
      go_wp2
      go_ret
      exact ⟨ret_int (by omega), unhide hb⟩

end Go.Proofs.Ytpdnceeniokemaa

namespace Go.Proofs.Ytpdnceeniokemaa
open Go.RowKit
set_option linter.unusedVariables false
set_option linter.unusedSimpArgs false

/-- the mark in cell j -/
def mkv (q : Int) (j : Nat) : Value := if j % 3 = 0 then sv (mkT (q + j)) else iv (q + j)
/-- the first i cells bear the marks from q on -/
def Mks (q : Int) (i : Nat) (xs : List Value) : Prop := ∀ j, j < i → xs[j]? = some (mkv q j)
theorem Mks.set {q : Int} {i : Nat} {xs : List Value} (h : Mks q i xs) (hi : i < xs.length) : Mks q (i + 1) (xs.set i (mkv q i)) := by
  intro j hj
  by_cases e : j = i
  · subst e; simp [hi]
  · rw [List.getElem?_set_ne (by omega)]; exact h j (by omega)
theorem mkv0 (q : Int) (k : Nat) : mkv q (k * 3) = sv (mkT (q + k * 3)) := by unfold mkv; rw [if_pos (by omega)]; congr 1
theorem mkv1 (q : Int) (k : Nat) : mkv q (k * 3 + 1) = iv (q + k * 3 + 1) := by
  unfold mkv; rw [if_neg (by omega)]
  have : q + ((k * 3 + 1 : Nat) : Int) = q + k * 3 + 1 := by omega
  rw [this]
theorem mkv2 (q : Int) (k : Nat) : mkv q (k * 3 + 2) = iv (q + k * 3 + 2) := by
  unfold mkv; rw [if_neg (by omega)]
  have : q + ((k * 3 + 2 : Nat) : Int) = q + k * 3 + 2 := by omega
  rw [this]
theorem mark_n {w1 : World} {B g n cap k : Nat} {q : Int} {ys : List Value} (hlt : k < n) (hy : w1.ownsRow B 79 3 (.slice (some ⟨g, 0, none⟩) n cap) n ys) (hm : Mks q (k * 3) ys) :
    ∃ ys, (((w1.setCell ⟨g, k * 3, none⟩ (.string (mkT (q + k * 3)))).setCell ⟨g, k * 3 + 1, none⟩ (.int .i64 (q + k * 3 + 1))).setCell ⟨g, k * 3 + 2, none⟩ (.int .i64 (q + k * 3 + 2))).ownsRow B 79 3 (.slice (some ⟨g, 0, none⟩) n cap) n ys ∧ Mks q ((k + 1) * 3) ys := by
  have hl : ys.length = n * 3 := hy.1
  have h0 := (hy.stored (k * 3) (mkv q (k * 3))).1
  have m0 := hm.set (by omega)
  have h1 := (h0.stored (k * 3 + 1) (mkv q (k * 3 + 1))).1
  have m1 := m0.set (by rw [List.length_set]; omega)
  have h2 := (h1.stored (k * 3 + 2) (mkv q (k * 3 + 2))).1
  have m2 := m1.set (by rw [List.length_set, List.length_set]; omega)
  have z5 : (k + 1) * 3 = k * 3 + 1 + 1 + 1 := by omega
  rw [mkv0, mkv1, mkv2] at h2
  rw [z5]
  refine ⟨_, h2, ?_⟩
  rw [← mkv0, ← mkv1, ← mkv2]; exact m2
set_option maxHeartbeats 1600000 in
theorem markA_any (B g n cap : Nat) (q : Int) (xs : List Value) (w : World) (hn : n ≤ 10000000) (q0 : 1 ≤ q) (q1 : q ≤ 100000000) (h : w.ownsRow B 79 3 (.slice (some ⟨g, 0, none⟩) n cap) n xs) :
    Calls Try.prog 36 #[.slice (some ⟨g, 0, none⟩) n cap, .int .i64 q] w fun e w' => e = .returned (.int .i64 (q + n * 3)) ∧ (∃ ys, w'.ownsRow B 79 3 (.slice (some ⟨g, 0, none⟩) n cap) n ys ∧ Mks q (n * 3) ys) ∧ w.grownBy w' (some g) := by
  have h' := hide h
  clear h
  go_enter Try.func36, Try.ntmps36
  go_wp2
  go_loopw [1, 5] (fun s t wr => ∃ k : Nat, k ≤ n ∧ t = .int .i64 k ∧ s = .int .i64 (q + k * 3) ∧ Hid (∃ ys, wr.ownsRow B 79 3 (.slice (some ⟨g, 0, none⟩) n cap) n ys ∧ Mks q (k * 3) ys) ∧ Hid (w.grownBy wr (some g))) (fun _ t _ => n - (intOf t).toNat)
  case atStart => exact ⟨0, by omega, rfl, by simp, hide ⟨xs, unhide h', fun j hj => by omega⟩, hide (grown_refl _ _)⟩
  case round =>
    obtain ⟨k, hk, rfl, rfl, hown, hg⟩ := hrel
    by_cases hlt : k < n
    · go_wp2_with fail
      refine (mtext_any (q + k * 3) _ (by omega) (by omega)).mono ?_
      rintro e w1 ⟨rfl, k1⟩
      obtain ⟨ys, hy, hm⟩ := unhide hown
      have hy1 := ownsRow_below hy k1
      obtain ⟨v0, c0, f0, _, hl0⟩ := own_at (i := k * 3) hy1 (by omega)
      obtain ⟨v1, c1, f1, _, hl1⟩ := own_at (i := k * 3 + 1) hy1 (by omega)
      obtain ⟨v2, c2, f2, _, hl2⟩ := own_at (i := k * 3 + 2) hy1 (by omega)
      have hnew := hide (mark_n hlt hy1 hm)
      have hG2 := hide (grown_set (v := .int .i64 (q + k * 3 + 2)) (i := k * 3 + 2) (grown_set (v := .int .i64 (q + k * 3 + 1)) (i := k * 3 + 1) (grown_set (v := .string (mkT (q + k * 3))) (i := k * 3) (grown_below (unhide hg) k1))))
      have e2 : q + (k : Int) * 3 + 1 + 1 = q + k * 3 + 2 := by omega
      generalize mkT (q + k * 3) = M at *
      clear hown hy hm hy1 k1 hl0 hl1 hl2 hg
      go_wp2
      go_roundw
      case rel => exact ⟨k + 1, by omega, by go_num, by go_num, by first | exact hnew | (rw [e2]; exact hnew), by first | exact hG2 | (rw [e2]; exact hG2)⟩
      case measure => simp [intOf]; omega
    · have hke : k = n := by omega
      have hf : Hid (∃ ys, wr.ownsRow B 79 3 (.slice (some ⟨g, 0, none⟩) n cap) n ys ∧ Mks q (n * 3) ys) := hide (by have := unhide hown; rw [hke] at this; exact this)
      clear hown
      go_wp2
      go_ret
      exact ⟨ret_int (by omega), unhide hf, unhide hg⟩

end Go.Proofs.Ytpdnceeniokemaa
