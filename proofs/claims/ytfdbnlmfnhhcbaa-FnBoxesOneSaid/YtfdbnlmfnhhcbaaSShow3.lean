/-
  Contract of the model's shower of boxes where bytes of boxes may be nil: the bytes, in memory of their own; nothing that was there is written.
-/
import Derived.Test.YtfdbnlmfnhhcbaaIShow3
import Derived.Test.YtfdbnlmfnhhcbaaSOk
import Derived.Test.YtfdbnlmfnhhcbaaMark2
import Derived.Deep.CutBlock
import Derived.Deep.RegionHeld3
namespace Go.Proofs.Ytfdbnlmfnhhcbaa
open Go.RowKit
set_option linter.unusedVariables false
set_option linter.unusedSimpArgs false

def ShCO (N : Nat) : Prop := ∀ (a : Option Addr) (cap : Nat) (A : Nat → Option Addr × Nat) (l : List Bx) (w : World), l.length ≤ N → tot l ≤ 21600 → (∀ x ∈ l, x.k.size = 4) → l.length ≤ cap → cap ≤ 9223372036854775807 → l.length ≤ 1048576 → (∀ i, i < l.length → (A i).1 = none → (A i).2 = 0) → Bxs false 0 w.heap.size w a A l →
  Calls Try.prog 22 #[.slice a l.length cap] w fun e w' => ∃ g c, e = .returned (.slice (some ⟨g, 0, none⟩) (tot l) c) ∧ w'.ownsRow w.heap.size 5 1 (.slice (some ⟨g, 0, none⟩) (tot l) c) (tot l) ((fl l).map u8) ∧ Below w.heap.size w w'

/-- a cell of an older block, and nothing of that time written -/
def SxO (wr : World) (p : Addr) (v : Value) (w' : World) : Prop := w'.cell? p = some v ∧ Below wr.heap.size wr w'
theorem SxO.of {wr w' : World} {p : Addr} {v : Value} (h : wr.cell? p = some v) (hp : p.block < wr.heap.size) (hb : Below wr.heap.size wr w') : SxO wr p v w' := ⟨by rw [World.cell?_of_block (hb.block _ hp)]; exact h, hb⟩
theorem SxO.alloc {wr w' : World} {p : Addr} {v : Value} (hc : wr.cell? p = some v) (hp : p.block < wr.heap.size) (h : SxO wr p v w') (o : Obj) : SxO wr p v (w'.alloc o) := SxO.of hc hp (h.2.alloc h.2.size _)
theorem SxO.drew {wr w' : World} {p : Addr} {v : Value} (h : SxO wr p v w') : SxO wr p v w'.drew := ⟨h.1, h.2.drew⟩

/-- bytes behind a row of one's own: it lies where it lay, or in a new block -/
theorem wpList_bytesL2 {ops : Array Oper} {rest : List Oper} {o : Oper} {a : Act} {Q : Exit → Act → World → Prop} (w : World) (hgd : o.guard = none) (s x : Operand) (ho : o.op = .call { callee := .builtin .append, args := #[s, x], argTypes := #[22, 22] })
    (B n Hh : Nat) (v : Value) (xs : List Value) (hs : a.eval s = v) (hown : w.ownsRow B 5 1 v n xs) (ad : Addr) (m c : Nat) (zs : List Int) (hm : zs.length = m) (hm0 : 0 < m) (hx : a.eval x = .slice (some ad) m c) (hr : Row false 0 Hh w (some ad) zs) (hlen : n + m ≤ 1000000000) (hB : B ≤ w.heap.size)
    (h : ∀ g cap w', w'.ownsRow B 5 1 (.slice (some ⟨g, 0, none⟩) (n + m) cap) (n + m) (xs ++ zs.map u8) → w.grownBy w' v.ownBlock → (v.ownBlock = some g ∨ g = w.heap.size) → wpList Try.prog ops Q rest (a.put o.dst (.slice (some ⟨g, 0, none⟩) (n + m) cap)) w') : wpList Try.prog ops Q (o :: rest) a w := by
  obtain ⟨i0, hi, hz0, hz1, hz2⟩ := info_parts info5
  exact wpList_plain hgd fun _ hK => wp_append_lies w s x 22 ho B 5 i0 (.int .u8 0) 1 1 Try.underlying22 hi hz0 hz1 hz2 rfl (by decide) v n xs hs hown ad m c (zs.map u8) hx (by simp; omega) (row_news hr) (u8_one zs) hm0 (by unfold maxLen; omega) (by omega) hB w.heap.size rfl fun g cap w' h2 h3 h4 _ => hK _ _ (h g cap w' h2 h3 h4)

set_option maxRecDepth 100000 in
set_option maxHeartbeats 3200000 in
theorem sh_stepO (N : Nat) (hih : 0 < N → ShCO (N - 1)) : ShCO N := by
  intro a cap A l w hlN ht hk4 hlc hc2 hll hA hr
  have hih' := hide hih
  have hr' := hide hr
  have hA' := hide hA
  have hlen' := hide (fl_len l hk4)
  have hk4' := hide hk4
  clear hih hr hA hk4
  obtain ⟨T, hT⟩ : ∃ T, tot l = T := ⟨_, rfl⟩
  rw [hT] at ht ⊢
  have hT' := hide hT
  have hown0 := hide (World.ownsRow_lit (base := w.heap.size) (e := 5) (size := 1) w #[] 0 (Nat.le_refl _) (by unfold maxLen; omega) rfl)
  clear hT
  go_enter Try.func22, Try.ntmps22
  go_wp2
  go_loopw [3, 4] (fun s t wr => ∃ (i n c g : Nat) (xs : List Value), i ≤ l.length ∧ t = .int .i64 i ∧ s = .slice (some ⟨g, 0, none⟩) n c ∧ n ≤ 21600 ∧ Hid (wr.ownsRow w.heap.size 5 1 (.slice (some ⟨g, 0, none⟩) n c) n xs) ∧ Hid (xs ++ (fl (l.drop i)).map u8 = (fl l).map u8) ∧ Hid (Below w.heap.size w wr)) (fun _ t _ => l.length - (intOf t).toNat)
  case atStart => exact ⟨0, 0, 0, w.heap.size, [], by omega, rfl, rfl, by omega, hown0, hide rfl, hide ((Below.refl _ _).alloc (Nat.le_refl _) _)⟩
  case round =>
    obtain ⟨i, n, c, g, xs, hk, rfl, rfl, hn, hown, hxs, hb⟩ := hrel
    by_cases hlt : i < l.length
    · clear hown0
      obtain ⟨x, hx⟩ : ∃ x, l[i]? = some x := ⟨l[i], List.getElem?_eq_getElem hlt⟩
      obtain ⟨y, hy⟩ : ∃ y, (A i).1 = y := ⟨_, rfl⟩
      obtain ⟨b, o, rfl, h1, h2, c0, c1, c2, hrow, k1, d0, d1, q1, q2, _⟩ := unhide hr' i x hx
      rw [hy] at c2 hrow
      obtain ⟨cz, hcz⟩ : ∃ cz, (A i).2 = cz := ⟨_, rfl⟩
      rw [hcz] at c2
      have hnn : Hid (y = none → cz = 0) := hide (fun e => by have := unhide hA' i hlt (by rw [hy]; exact e); rw [hcz] at this; exact this)
      have hx4 := hide (unhide hk4' x (List.mem_of_getElem? hx))
      have hgl : g < wr.heap.size := ((unhide hown).lt g rfl).2
      have hgb : w.heap.size ≤ g := ((unhide hown).lt g rfl).1
      have zb := (unhide hb).size
      have hbr : b < wr.heap.size := by omega
      have w0 : wr.cell? ⟨b, o + i * 3, none⟩ = some (.string x.k) := by rw [(bcell (unhide hb)).1 _ _ h2]; exact c0
      have w1 : wr.cell? ⟨b, o + i * 3 + 1, none⟩ = some (.int .i64 x.d) := by rw [(bcell (unhide hb)).1 _ _ h2]; exact c1
      have w2 : wr.cell? ⟨b, o + i * 3 + 2, none⟩ = some (.slice y x.z.length cz) := by rw [(bcell (unhide hb)).1 _ _ h2]; exact c2
      have hx' := hide hx
      have hrow' := hide hrow
      have heo : Hid (eo l i = eoN l x.d (l.length - (i + 1)) (i + 1)) := hide (by unfold eo depAt; rw [hx])
      have hE1 : i + 1 ≤ eo l i := by rw [eo_sub hx]; omega
      have hE2 : eo l i ≤ l.length := eo_le hlt
      obtain ⟨E, hE⟩ : ∃ E, eo l i = E := ⟨_, rfl⟩
      rw [hE] at hE1 hE2
      have hE' := hide hE
      have hltb : decide ((i : Int) < (l.length : Int)) = true := decide_eq_true (by omega)
      clear hx hrow hcz hy c0 c1 c2 k1 q1 q2 d0 d1 hE
      have w0' := hide w0
      have w2' := hide w2
      clear w0 w2
      go_upto_block 2 with fail
      go_cut [5] from 9 to 75 (fun t wx => t = .int .i64 E ∧ ∃ nq, wx = wr.drewN nq)
      case first =>
        go_wp2
        go_loopw [5] (fun t wx => ∃ q nq : Nat, i + 1 ≤ q ∧ q ≤ l.length ∧ t = .int .i64 q ∧ Hid (eo l i = eoN l x.d (l.length - q) q) ∧ wx = wr.drewN nq) (fun t _ => l.length - (intOf t).toNat)
        case atStart => exact ⟨i + 1, 0, by omega, by omega, by go_num, heo, rfl⟩
        case round =>
          obtain ⟨q, nq, hq, hql, rfl, hp, rfl⟩ := hrel
          by_cases hlt2 : q < l.length
          · obtain ⟨x2, hx2⟩ : ∃ x2, l[q]? = some x2 := ⟨l[q], List.getElem?_eq_getElem hlt2⟩
            obtain ⟨b', o', hbo, _, hb2, e0, e1, e2, _, _, f0, f1, _, _, _⟩ := unhide hr' q x2 hx2
            injection hbo with hbo
            injection hbo with eb eo' _
            subst eb eo'
            have hstep : Hid (eoN l x.d (l.length - q) q = if deeper l x.d q = true then eoN l x.d (l.length - (q + 1)) (q + 1) else q) := hide (by
              rw [show l.length - q = (l.length - (q + 1)) + 1 by omega]; rfl)
            have hh := hide (deeper_at (d := x.d) hx2)
            have w3 : wr.cell? ⟨b, o + q * 3 + 1, none⟩ = some (.int .i64 x2.d) := by rw [(bcell (unhide hb)).1 _ _ hb2]; exact e1
            have hlt2b : decide ((q : Int) < (l.length : Int)) = true := decide_eq_true (by omega)
            clear hx2 e0 e1 e2
            by_cases hd : x.d < x2.d
            · have hn : Hid (eo l i = eoN l x.d (l.length - (q + 1)) (q + 1)) := hide (by rw [unhide hp, unhide hstep, unhide hh, decide_eq_true hd]; simp)
              have hdb : decide (x.d < x2.d) = true := decide_eq_true hd
              go_wp2
              go_quiet (fail)
              go_wp2
              go_roundw
              case rel => exact ⟨q + 1, _, by omega, by omega, by go_num, hn, rfl⟩
              case measure => simp [intOf]; omega
            · have hn : E = q := by rw [← unhide hE', unhide hp, unhide hstep, unhide hh, decide_eq_false hd]; simp
              have hdb : decide (x.d < x2.d) = false := decide_eq_false hd
              go_wp2
              go_quiet (fail)
              go_wp2
              go_meet
              exact ⟨by rw [hn], _, World.drewN_drewN _ _ _⟩
          · have hn : E = q := by rw [← unhide hE', unhide hp, show l.length - q = 0 by omega]; rfl
            have hlt2b : decide ((q : Int) < (l.length : Int)) = false := decide_eq_false (by omega)
            go_wp2
            go_quiet (fail)
            go_wp2
            go_meet
            exact ⟨by rw [hn], _, World.drewN_drewN _ _ _⟩
      case rest =>
        obtain ⟨h5, nq, hwc⟩ := hcut
        subst h5 hwc
        have hsl : ((l.take E).drop (i + 1)).length = E - (i + 1) := by simp; omega
        have hsp : tot l = tot (l.take (i + 1)) + tot ((l.take E).drop (i + 1)) + tot (l.drop E) := by
          have h1 := tot_append ((l.take E).take (i + 1)) ((l.take E).drop (i + 1))
          rw [List.take_append_drop, List.take_take, Nat.min_eq_left (by omega)] at h1
          have h2 := tot_append (l.take E) (l.drop E)
          rw [List.take_append_drop] at h2
          omega
        have hti := tot_take (unhide hx')
        rw [unhide hT'] at hsp
        obtain ⟨sub, hsub⟩ : ∃ sub, (l.take E).drop (i + 1) = sub := ⟨_, rfl⟩
        rw [hsub] at hsl hsp
        have hk4s : ∀ x ∈ sub, x.k.size = 4 := fun x hxm => unhide hk4' x (by rw [← hsub] at hxm; exact List.mem_of_mem_take (List.mem_of_mem_drop hxm))
        have hbds : Hid (∀ z ∈ fl sub, 0 ≤ z ∧ z ≤ 255) := hide (fl_bd sub (fun x2 hx2 => by
          rw [← hsub] at hx2
          obtain ⟨j, hj⟩ := List.getElem?_of_mem (List.mem_of_mem_take (List.mem_of_mem_drop hx2))
          obtain ⟨_, _, _, _, _, _, _, _, hrw, _⟩ := unhide hr' j x2 hj
          exact hrw.bd))
        have hbz := hide (unhide hrow').bd
        obtain ⟨t2, ht2⟩ : ∃ t2, tot sub = t2 := ⟨_, rfl⟩
        have hfs := fl_len sub hk4s
        rw [ht2] at hfs hsp
        have hm2 : x.z.length + t2 ≤ 21600 := by omega
        obtain ⟨ad, had, hadr⟩ : ∃ ad, (if cap = i + 1 then some (⟨b, o, none⟩ : Addr) else some ⟨b, o + (i + 1) * 3, none⟩) = some ad ∧ ∀ w5, Below wr.heap.size wr w5 → Bxs false 0 w5.heap.size w5 (some ad) (fun j => A (i + 1 + j)) sub := by
          by_cases hce : cap = i + 1
          · refine ⟨⟨b, o, none⟩, if_pos hce, fun w5 _ => ?_⟩
            have e0 : sub = [] := List.eq_nil_of_length_eq_zero (by omega)
            rw [e0]; exact Bxs.nil
          · refine ⟨⟨b, o + (i + 1) * 3, none⟩, if_neg hce, fun w5 hb5 => ?_⟩
            rw [← hsub]
            have hbw := (unhide hb).trans (hb5.mono zb)
            exact ((((unhide hr').below hbw (Nat.le_refl _)).mono (Nat.le_refl _) hbw.size).take E).drop (i + 1)
        have hcall : ∀ w5, Below wr.heap.size wr w5 → Calls Try.prog 22 #[.slice (some ad) (E - (i + 1)) (cap - (i + 1))] w5 fun e w' => ∃ g c, e = .returned (.slice (some ⟨g, 0, none⟩) t2 c) ∧ w'.ownsRow w5.heap.size 5 1 (.slice (some ⟨g, 0, none⟩) t2 c) t2 ((fl sub).map u8) ∧ Below w5.heap.size w5 w' := by
          intro w5 hb5
          have h := unhide hih' (by omega) (some ad) (cap - (i + 1)) (fun j => A (i + 1 + j)) sub w5 (by omega) (by omega) hk4s (by omega) (by omega) (by omega) (fun j hj => unhide hA' (i + 1 + j) (by omega)) (hadr w5 hb5)
          rw [hsl, ht2] at h
          exact h
        have hcall' := hide hcall
        have hownA : Hid ((wr.alloc (.cells #[] 5)).ownsRow wr.heap.size 5 1 (.slice (some ⟨wr.heap.size, 0, none⟩) 0 0) 0 []) := hide (World.ownsRow_lit (base := wr.heap.size) (e := 5) (size := 1) wr #[] 0 (Nat.le_refl _) (by unfold maxLen; omega) rfl)
        have hbA : Below w.heap.size w (wr.alloc (.cells #[] 5)) := (unhide hb).alloc zb _
        have hrowA : Hid (Row false 0 w.heap.size (wr.alloc (.cells #[] 5)) y x.z) := hide ((unhide hrow').below hbA (Nat.le_refl _))
        have hA1 : wr.heap.size ≤ (wr.alloc (.cells #[] 5)).heap.size := by simp
        have hw2 : IntKind.i64.wrap ((i : Int) + 1) = (i : Int) + 1 := by rw [IntKind.wrap_i64]; omega
        have hw4 : ((i : Int) + 1).toNat = i + 1 := by omega
        have sl1 : (0 : Int) ≤ (i : Int) + 1 := by omega
        have sl2 : (i : Int) + 1 ≤ (E : Int) := by omega
        have sl3 : (E : Int) ≤ (cap : Int) := by omega
        have hfs' := hide hfs
        have hsub' := hide hsub
        have ht2' := hide ht2
        have hzl : x.z.length ≤ 21600 := by omega
        have hp2 : b < wr.heap.size := hbr
        clear hcall hadr hsp hti hk4s hsl hfs hsub ht2 hbA heo
        go_upto_region 7 with fail
        go_cut [6] from 9 to 75 (fun t wx => ∃ gi ci, t = .slice (some ⟨gi, 0, none⟩) (x.z.length + t2) ci ∧ Hid (wx.ownsRow wr.heap.size 5 1 (.slice (some ⟨gi, 0, none⟩) (x.z.length + t2) ci) (x.z.length + t2) (x.z.map u8 ++ (fl sub).map u8)) ∧ Hid (Below wr.heap.size wr wx))
        case first =>
          go_region_held3 (fun w' => w'.cell? ⟨b, o + i * 3 + 2, none⟩ = some (.slice y x.z.length cz) ∧ Below wr.heap.size wr w')
            (first | exact SxO.of (p := ⟨b, o + i * 3 + 2, none⟩) (unhide w2') hp2 (unhide hB7) | exact SxO.of (p := ⟨b, o + i * 3 + 2, none⟩) (unhide w2') hp2 (unhide hB6) | exact SxO.of (p := ⟨b, o + i * 3 + 2, none⟩) (unhide w2') hp2 (unhide hB5) | exact SxO.of (p := ⟨b, o + i * 3 + 2, none⟩) (unhide w2') hp2 ((below_drewN (Below.refl _ _) nq).drew) | exact SxO.of (p := ⟨b, o + i * 3 + 2, none⟩) (unhide w2') hp2 (((below_drewN (Below.refl _ _) nq).drew).alloc (Nat.le_refl _) _) | exact SxO.of (p := ⟨b, o + i * 3 + 2, none⟩) (unhide w2') hp2 ((((below_drewN (Below.refl _ _) nq).drew).alloc (Nat.le_refl _) _).drew))
            ((first
              | (refine step_bytesO _ (by rfl) _ _ (by rfl) wr.heap.size 0 w.heap.size (.slice (some ⟨wr.heap.size, 0, none⟩) 0 0) [] (by rfl) (unhide hownA) y x.z.length cz x.z rfl (by rfl) (unhide hrowA) (unhide hnn) (by omega) hA1 ?_
                 intro v5 w5 hown5 hgrow5 hiff5
                 rw [Nat.zero_add, List.nil_append] at hown5
                 obtain ⟨g5, c5, rfl⟩ := own_form hown5 (by simpa using hiff5)
                 have hB5 : Hid (Below wr.heap.size wr w5) := hide (Below.grown ((((below_drewN (Below.refl wr.heap.size wr) nq).drew).alloc (Nat.le_refl _) _)) hgrow5 hA1 (fun k hk => by have e2 : wr.heap.size = k := Option.some.inj hk; omega))
                 have hown5' := hide hown5
                 clear hown5 hgrow5 hiff5)
              | (go_at_call 22
                 refine (unhide hcall' _ (unhide hB5)).mono ?_
                 rintro e w6 ⟨g6, c6, rfl, own6, b6⟩
                 have hB6 : Hid (Below wr.heap.size wr w6) := hide ((unhide hB5).trans (b6.mono (unhide hB5).size))
                 have hown6 : Hid (w6.ownsRow wr.heap.size 5 1 (.slice (some ⟨g5, 0, none⟩) x.z.length c5) x.z.length (x.z.map u8)) := hide (own_kept (unhide hown5') (fun k hk => b6.block k ((unhide hown5').lt k hk).2))
                 have hrow6 : Hid (Row false 0 (g6 + 1) w6 (some ⟨g6, 0, none⟩) (fl sub)) := hide ((row_of_own own6 (unhide hbds)).read.mono (Nat.zero_le _) (Nat.le_refl _))
                 have hz6 : wr.heap.size ≤ w6.heap.size := (unhide hB6).size
                 clear own6 b6)
              | (refine step_bytes _ (by rfl) _ _ (by rfl) wr.heap.size x.z.length (g6 + 1) (.slice (some ⟨g5, 0, none⟩) x.z.length c5) (x.z.map u8) (by rfl) (unhide hown6) ⟨g6, 0, none⟩ t2 c6 (fl sub) (unhide hfs') (by rfl) (unhide hrow6) (by omega) hz6 ?_
                 intro v7 w7 hown7 hgrow7 hiff7
                 obtain ⟨g7, c7, rfl⟩ := own_form hown7 (by simpa using hiff7)
                 have hB7 : Hid (Below wr.heap.size wr w7) := hide ((unhide hB6).grown hgrow7 hz6 (fun k hk => ((unhide hown6).lt k hk).1))
                 have hown7' := hide hown7
                 clear hown7 hgrow7 hiff7)))
          all_goals
            go_wp2_with fail
            go_meet
            exact ⟨_, _, rfl, hown7', hB7⟩
        case rest =>
          obtain ⟨gi, ci, h6, hin, hB7⟩ := hcut
          subst h6
          have zc : wr.heap.size ≤ wc.heap.size := (unhide hB7).size
          have hownc : Hid (wc.ownsRow w.heap.size 5 1 (.slice (some ⟨g, 0, none⟩) n c) n xs) := hide (own_kept (unhide hown) (fun j hj => (unhide hB7).block j ((unhide hown).lt j hj).2))
          clear hownA hrowA hA1 hcall' had hw2 hw4 sl1 sl2 sl3
          obtain ⟨N4, hN4⟩ : ∃ N4, x.z.length + t2 + 8 = N4 := ⟨_, rfl⟩
          have hrow4 := row_new wc N4
          have hobj : (Obj.cells ((be4 N4).map u8).toArray 5) = .cells #[.int .u8 (((x.z.length : Int) + (t2 : Int) + 8) / 16777216), .int .u8 (((x.z.length : Int) + (t2 : Int) + 8) / 65536), .int .u8 (((x.z.length : Int) + (t2 : Int) + 8) / 256), .int .u8 (((x.z.length : Int) + (t2 : Int) + 8) % 256)] 5 := by
            have e0 : ((N4 / 16777216 % 256 : Nat) : Int) = ((x.z.length : Int) + (t2 : Int) + 8) / 16777216 := by omega
            have e1 : ((N4 / 65536 % 256 : Nat) : Int) = ((x.z.length : Int) + (t2 : Int) + 8) / 65536 := by omega
            have e2 : ((N4 / 256 % 256 : Nat) : Int) = ((x.z.length : Int) + (t2 : Int) + 8) / 256 := by omega
            have e3 : ((N4 % 256 : Nat) : Int) = ((x.z.length : Int) + (t2 : Int) + 8) % 256 := by omega
            unfold be4
            rw [e0, e1, e2, e3]; rfl
          have hownd := own_kept (w1 := wc.alloc (.cells ((be4 N4).map u8).toArray 5)) (unhide hownc) (fun j hj => Below.heap_alloc _ _ _ ((unhide hownc).lt j hj).2)
          rw [hobj] at hrow4 hownd
          have hrow4' := hide hrow4
          have hownd' := hide hownd
          have hgi : wr.heap.size ≤ gi := ((unhide hin).lt gi rfl).1
          have hgi2 : gi < wc.heap.size := ((unhide hin).lt gi rfl).2
          have hN4' := hide hN4
          have Bc := hide ((unhide hb).trans ((unhide hB7).mono zb))
          clear hrow4 hownd hobj hN4
          go_wp2_with (at_builtin; refine wpList_bytesL2 _ rfl _ _ rfl w.heap.size n (wc.heap.size + 1) (.slice (some ⟨g, 0, none⟩) n c) xs rfl (unhide hownd') ⟨wc.heap.size, 0, none⟩ 4 4 (be4 N4) rfl (by decide) rfl (unhide hrow4') (by omega) (by simp; omega) ?_)
          intro g8 c8 w8 own8 hg8 hat8
          have z8 := hg8.size
          have za : (wc.alloc (.cells #[.int .u8 (((x.z.length : Int) + (t2 : Int) + 8) / 16777216), .int .u8 (((x.z.length : Int) + (t2 : Int) + 8) / 65536), .int .u8 (((x.z.length : Int) + (t2 : Int) + 8) / 256), .int .u8 (((x.z.length : Int) + (t2 : Int) + 8) % 256)] 5)).heap.size = wc.heap.size + 1 := by simp
          rw [za] at z8
          try rw [za] at hat8
          have hne8 : g8 ≠ gi := by
            rcases hat8 with h | h
            · have e : g = g8 := Option.some.inj h
              omega
            · omega
          have hin8 : Hid (w8.ownsRow wr.heap.size 5 1 (.slice (some ⟨gi, 0, none⟩) (x.z.length + t2) ci) (x.z.length + t2) (x.z.map u8 ++ (fl sub).map u8)) := hide (own_kept (unhide hin) (fun j hj => by
            have e : gi = j := Option.some.inj hj
            subst e
            exact (hg8.block gi (by rw [za]; omega) (fun e => by have e2 : gi = g := Option.some.inj e; omega)).trans (Below.heap_alloc _ _ _ hgi2)))
          have B8 := hide (((unhide Bc).alloc (unhide Bc).size _).grown hg8 (by rw [za]; omega) (fun j hj => by have e : g = j := Option.some.inj hj; omega))
          have own8' := hide own8
          have w08 : w8.cell? ⟨b, o + i * 3, none⟩ = some (.string x.k) := by
            have h0 := unhide w0'
            rw [(bcell (unhide hb)).1 _ _ h2] at h0
            rw [(bcell (unhide B8)).1 _ _ h2]; exact h0
          clear own8 hg8 hat8 za hownd' hrow4' hownc
          go_wp2_with (at_builtin; refine wpList_str _ rfl _ _ rfl w.heap.size (n + 4) (.slice (some ⟨g8, 0, none⟩) (n + 4) c8) _ rfl (unhide own8') x.k rfl (by have := unhide hx4; omega) (unhide B8).size ?_)
          intro v9 w9 own9 hg9 hi9
          obtain ⟨g9, c9, rfl⟩ := own_form own9 (by simpa using hi9)
          have z9 := hg9.size
          have B9 := hide ((unhide B8).grown hg9 (unhide B8).size (fun j hj => ((unhide own8').lt j hj).1))
          have hrow9 : Hid (Row false 0 (gi + 1) w9 (some ⟨gi, 0, none⟩) (x.z ++ fl sub)) := hide (by
            have hin9 : w9.ownsRow wr.heap.size 5 1 (.slice (some ⟨gi, 0, none⟩) (x.z.length + t2) ci) (x.z.length + t2) ((x.z ++ fl sub).map u8) := by
              rw [List.map_append]
              exact own_kept (unhide hin8) (fun j hj => hg9.block j ((unhide hin8).lt j hj).2 (fun e => by
                have e1 : gi = j := Option.some.inj hj
                have e2 : j = g8 := Option.some.inj e
                omega))
            exact (row_of_own hin9 (fun z hz => by
              rcases List.mem_append.1 hz with hz | hz
              · exact unhide hbz z hz
              · exact unhide hbds z hz)).read.mono (Nat.zero_le _) (Nat.le_refl _))
          have hlen9 : Hid ((x.z ++ fl sub).length = x.z.length + t2) := hide (by rw [List.length_append, unhide hfs'])
          have own9' := hide own9
          clear own9 hg9 hi9 w08 hin8 own8' B8
          go_wp2_with (at_builtin; refine wpList_bytes _ rfl _ _ rfl w.heap.size (n + 4 + x.k.size) (gi + 1) (.slice (some ⟨g9, 0, none⟩) (n + 4 + x.k.size) c9) _ rfl (unhide own9') ⟨gi, 0, none⟩ (x.z.length + t2) ci (x.z ++ fl sub) (unhide hlen9) rfl (unhide hrow9) (by have := unhide hx4; omega) (unhide B9).size ?_)
          intro v10 w10 own10 hg10 hi10
          obtain ⟨g10, c10, rfl⟩ := own_form own10 (by simpa using hi10)
          have B10 := hide ((unhide B9).grown hg10 (unhide B9).size (fun j hj => ((unhide own9').lt j hj).1))
          have own10' := hide own10
          clear own10 hg10 hi10 own9' B9 hrow9
          go_wp2
          go_roundw
          case rel =>
            have hx2 := unhide hx'
            have heq : (xs ++ ((be4 N4).map u8 ++ (Lib.strCells x.k ++ (x.z ++ fl sub).map u8))) ++ (fl (l.drop E)).map u8 = (fl l).map u8 := by
              rw [← unhide hxs, fl_step hx2, unhide hE', unhide hsub', unhide ht2', ← kb_cells, show 8 + x.z.length + t2 = N4 by rw [← unhide hN4']; omega]
              simp only [List.map_append, List.append_assoc]
            have heq2 : (xs ++ (be4 N4).map u8 ++ Lib.strCells x.k ++ (x.z ++ fl sub).map u8) ++ (fl (l.drop E)).map u8 = (fl l).map u8 := by rw [← heq]; simp only [List.append_assoc]
            have hl3 := congrArg List.length heq2
            rw [List.length_append, List.length_map, List.length_map, unhide hlen', unhide hT'] at hl3
            have hl4 := (unhide own10').1
            refine ⟨E, n + 4 + x.k.size + (x.z.length + t2), c10, g10, _, by omega, by go_num, rfl, ?_, own10', ?_, B10⟩
            · simp only [List.length_append, List.map_append, List.append_assoc, List.length_map] at hl3 hl4
              omega
            · first | exact hide heq | exact hide heq2 | exact hide (by simpa only [List.map_append, List.append_assoc] using heq)
          case measure => simp [intOf]; omega
    · have hke : i = l.length := by omega
      have heq := unhide hxs
      rw [hke, List.drop_length] at heq
      have heq2 : xs = (fl l).map u8 := by simpa [fl] using heq
      have hnT : n = T := by
        have h1 := (unhide hown).1
        rw [heq2, List.length_map, unhide hlen', unhide hT'] at h1
        omega
      subst hnT
      have heq' := hide heq2
      have hltb : decide ((i : Int) < (l.length : Int)) = false := decide_eq_false (by omega)
      clear heq heq2
      go_wp2
      go_ret
      refine ⟨g, c, rfl, ?_, unhide hb⟩
      rw [← unhide heq']; exact unhide hown
theorem sh_allO (N : Nat) : ShCO N := by
  induction N with
  | zero => exact sh_stepO 0 (fun h => by omega)
  | succ n ih => exact sh_stepO (n + 1) (fun _ => ih)
end Go.Proofs.Ytfdbnlmfnhhcbaa
