/-
  Titles as text: the contract of the model; nothing that was there is written.
-/
import Derived.Test.YtcpllfjhhlbmiaaDoorSwI
import Derived.Laws.Concat
namespace Go.Proofs.YtcpllfjhhlbmiaaDoor
open Go.RowKit
set_option linter.unusedVariables false
set_option linter.unusedSimpArgs false

theorem mk_app (a b : List UInt8) : (⟨a.toArray⟩ : ByteArray) ++ ⟨b.toArray⟩ = ⟨(a ++ b).toArray⟩ := ByteArray.mk_append_mk a b
theorem str_add {P : Program} {a b c : List UInt8} {A B C : ByteArray} (hA : (⟨a.toArray⟩ : ByteArray) = A) (hB : (⟨b.toArray⟩ : ByteArray) = B) (hC : (⟨c.toArray⟩ : ByteArray) = C) (h : a.length + b.length ≤ 1000000) (hc : c = a ++ b := by rfl) (w : World) :
    (Op.stringOp .add A B).run P w = .ok (.string C) w := by
  subst hA hB hC hc
  have h9 : (⟨a.toArray⟩ : ByteArray).size + (⟨b.toArray⟩ : ByteArray).size ≤ 9223372036854775807 := by show a.toArray.size + b.toArray.size ≤ _; simp; omega
  rw [← mk_app]
  exact run_string_add_sum (P := P) w ⟨a.toArray⟩ ⟨b.toArray⟩ h9
theorem wp_s {o : Oper} {a : Act} {K : Act → World → Prop} {Q : Exit → Act → World → Prop} (w : World) (sl x : Operand) (ho : o.op = .call { callee := .builtin .append, args := #[sl, x], argTypes := #[22, 9] })
    (B : Nat) (v : Value) (L l : List UInt8) (hs : a.eval sl = v) (hown : w.ownsRow B 5 1 v L.length (L.map bv)) (s : ByteArray) (hl : (⟨l.toArray⟩ : ByteArray) = s) (hx : a.eval x = .string s) (hlen : L.length + l.length ≤ 1000000) (hB : B ≤ w.heap.size)
    (h : ∀ v' w', w'.ownsRow B 5 1 v' (L ++ l).length ((L ++ l).map bv) → w.grownBy w' v.ownBlock → K (a.put o.dst v') w') : o.wp Tryd.prog a w K Q := by
  obtain ⟨ib, hi, hz0, hz1, hz2⟩ := info_parts infoB
  have hsz : s.size = l.length := by rw [← hl]; show l.toArray.size = _; simp
  obtain ⟨v', w', hr, h2, h3, h4⟩ := Lib.run_append_own_string (P := Tryd.prog) w B 22 9 o.type 5 ib Tryd.underlying22 Tryd.underlying9 hi hz0 hz1 hz2 v L.length (L.map bv) hown s (by unfold maxLen; omega) (by omega) hB
  unfold Oper.wp execOp
  simp only [ho, resolve, invoke, builtin, Sem.run_bind, Sem.run_pure, Result.andThen_ok, List.map_toArray, List.map_cons, List.map_nil, hs, hx, hr]
  exact h v' w' (row_app hl h2) h3
theorem step_s {ops : Array Oper} {o : Oper} {a : Act} {K : Act → World → Prop} {Q : Exit → Act → World → Prop} {E' : Prop} (w : World) (hgd : o.guard = none) (sl x : Operand) (ho : o.op = .call { callee := .builtin .append, args := #[sl, x], argTypes := #[22, 9] })
    (B : Nat) (v : Value) (L l : List UInt8) (hs : a.eval sl = v) (hown : w.ownsRow B 5 1 v L.length (L.map bv)) (s : ByteArray) (hl : (⟨l.toArray⟩ : ByteArray) = s) (hx : a.eval x = .string s) (hlen : L.length + l.length ≤ 1000000) (hB : B ≤ w.heap.size)
    (h : ∀ v' w', w'.ownsRow B 5 1 v' (L ++ l).length ((L ++ l).map bv) → w.grownBy w' v.ownBlock → K (a.put o.dst v') w') :
    if Region.wanted o (yielded ops a.tmps) = true then Oper.wp Tryd.prog o a w K Q else E' := by
  have hw : Region.wanted o (yielded ops a.tmps) = true := by simp [Region.wanted, hgd]
  rw [if_pos hw]
  exact wp_s w sl x ho B v L l hs hown s hl hx hlen hB h
theorem sb_ok {q : Nat} {x y : Int} {s : ByteArray} {w0 : World} (h : w0.heap[q]? = some (.cells #[.int .i64 x, .int .i64 y, .string s] 32 (0, 0))) : w0.cell? ⟨q, 0, none⟩ = some (.int .i64 x) ∧ w0.cell? ⟨q, 1, none⟩ = some (.int .i64 y) ∧ w0.cell? ⟨q, 2, none⟩ = some (.string s) := blk3 h
/-- a row of bytes under way, beside it a title -/
structure Rt (w : World) (q : Nat) (x y : Int) (s : ByteArray) (v : Value) (P : List UInt8) (W : World) : Prop where
  own : W.ownsRow w.heap.size 5 1 v P.length (P.map bv)
  bel : Below w.heap.size w W
  ttl : W.heap[q]? = some (.cells #[.int .i64 x, .int .i64 y, .string s] 32 (0, 0))
theorem Rt.later {w X Y : World} {q : Nat} {x y : Int} {s : ByteArray} {v : Value} {P : List UInt8} (h : Rt w q x y s v P X) (hb : Below X.heap.size X Y) : Rt w q x y s v P Y := ⟨ownsRow_below h.own hb, laterB h.bel hb, blk_below h.ttl hb⟩
theorem Rt.draw {w X : World} {q : Nat} {x y : Int} {s : ByteArray} {v : Value} {P : List UInt8} (h : Rt w q x y s v P X) : Rt w q x y s v P X.drew := ⟨own_heap rfl h.own, h.bel.drew, h.ttl⟩
theorem Rt.app {w X Y : World} {q : Nat} {x y : Int} {s : ByteArray} {v v' : Value} {P P' : List UInt8} (h : Rt w q x y s v P X) (ho : Y.ownsRow w.heap.size 5 1 v' P'.length (P'.map bv)) (hg : X.grownBy Y v.ownBlock) : Rt w q x y s v' P' Y :=
  ⟨ho, h.bel.grown hg h.bel.size (fun k hk => (h.own.lt k hk).1), okk_blk (okk_grown h.own hg) h.ttl (by decide)⟩

set_option maxRecDepth 100000 in
set_option maxHeartbeats 6400000 in
theorem sshow_any (a : Option Addr) (cap : Nat) (l : List Kl) (sR : ByteArray) (w : World) (hl : l.length ≤ 1048576) (hr : Kls w a l) (hsz : ∀ x ∈ l, x.2.2.size ≤ 1048576) (hR : (⟨(showT l).toArray⟩ : ByteArray) = sR) :
    Calls Tryd.prog 9 #[.slice a l.length cap] w fun e w' => e = .returned (.string sR) ∧ Below w.heap.size w w' := by
  have hr' := hide hr
  have hsz' := hide hsz
  have oA := hide (ownB_lit0 w (Nat.le_refl w.heap.size))
  have kA := hide ((Below.refl w.heap.size w).alloc (Nat.le_refl _) (.cells #[] 5))
  obtain ⟨v, hv⟩ : ∃ v, tOk l = v := ⟨_, rfl⟩
  have cT := hide (fun w' (h : Below w.heap.size w w') => sok_any a cap l v w' hl (hr.below h) hsz hv)
  clear hr hsz
  cases v
  · have hR2 := hide (show (⟨([] : List UInt8).toArray⟩ : ByteArray) = sR by rw [← hR]; unfold showT; rw [hv]; rfl)
    clear hR hv
    go_enter Tryd.func9, Tryd.ntmps9
    go_wp2
    go_loopw [3, 4] (fun u t wr => t = .int .i64 0 ∧ Hid (wr.ownsRow w.heap.size 5 1 u ([] : List UInt8).length (([] : List UInt8).map bv)) ∧ Hid (Below w.heap.size w wr)) (fun _ _ _ => 0)
    case atStart => exact ⟨rfl, oA, kA⟩
    case round =>
      clear oA kA
      obtain ⟨rfl, ho, hb⟩ := hrel
      by_cases hlt : 0 < l.length
      · have hlt2 : decide ((0 : Int) < (l.length : Int)) = true := decide_eq_true (by omega)
        have hltn : decide (0 < l.length) = true := decide_eq_true hlt
        go_wp2_with fail
        refine (unhide cT _ (unhide hb)).mono ?_
        rintro e w2 ⟨rfl, k2⟩
        have hcv := conv_own (ownsRow_below (unhide ho) k2)
        have hb2 := hide (laterB (unhide hb) k2)
        clear k2 ho
        go_wp2
        go_ret
        exact ⟨ret_bytes (unhide hR2), unhide hb2⟩
      · have hlt2 : decide ((0 : Int) < (l.length : Int)) = false := decide_eq_false (by omega)
        have hltn : decide (0 < l.length) = false := decide_eq_false hlt
        have hcv := conv_own (unhide ho)
        go_wp2
        go_ret
        exact ⟨ret_bytes (unhide hR2), unhide hb⟩
  have hR' := hide (show (⟨(shw l l.length).toArray⟩ : ByteArray) = sR by rw [← hR]; unfold showT; rw [hv, if_pos rfl])
  obtain ⟨hl2, hbd⟩ := t_bd hv
  have hbd' := hide hbd
  have htx := hide (t_txt hv)
  clear hR hv hbd
  go_enter Tryd.func9, Tryd.ntmps9
  go_wp2
  go_loopw [3, 4] (fun u t wr => ∃ k : Nat, k ≤ l.length ∧ t = .int .i64 k ∧ Hid (wr.ownsRow w.heap.size 5 1 u (shw l k).length ((shw l k).map bv)) ∧ Hid (Below w.heap.size w wr)) (fun _ t _ => l.length - (intOf t).toNat)
  case atStart => exact ⟨0, by omega, rfl, oA, kA⟩
  case round =>
    clear oA kA
    obtain ⟨k, hk, rfl, ho, hb⟩ := hrel
    by_cases hlt : k < l.length
    · have hlt2 : decide ((k : Int) < (l.length : Int)) = true := decide_eq_true (by omega)
      have hltn : decide (k < l.length) = true := decide_eq_true hlt
      obtain ⟨x, hx⟩ : ∃ x, l[k]? = some x := ⟨l[k], List.getElem?_eq_getElem hlt⟩
      have hab := fun (W : World) (h : Below w.heap.size w W) => ((unhide hr').below h) k x hx
      have hab' := hide hab
      obtain ⟨x0, x1, x2⟩ := unhide hbd' x (List.mem_of_getElem? hx)
      have hxs := unhide htx x (List.mem_of_getElem? hx)
      have hstep := hide (shw_step hx)
      have hPl := shw_len (unhide htx) k (by omega)
      obtain ⟨x, y, s⟩ := x
      simp only at x0 x1 x2 hxs hab'
      unfold tl at hstep
      simp only at hstep
      have hDl := dec4 (n := k + 1) (by omega)
      have h1l := mt_len x.toNat
      have h2l := mt_len y.toNat
      obtain ⟨L, hL0⟩ : ∃ L, s.data.toList = L := ⟨_, rfl⟩
      have hL : (⟨L.toArray⟩ : ByteArray) = s := by rw [← hL0]
      have hLl : L.length ≤ 200 := by rw [← hL0, ← Lib.size_eq]; exact hxs
      obtain ⟨sD, hD⟩ : ∃ z, (⟨(Pl.dec (k + 1)).toArray⟩ : ByteArray) = z := ⟨_, rfl⟩
      obtain ⟨s1, h1⟩ : ∃ z, (⟨(mt x.toNat).toArray⟩ : ByteArray) = z := ⟨_, rfl⟩
      obtain ⟨s2, h2⟩ : ∃ z, (⟨(mt y.toNat).toArray⟩ : ByteArray) = z := ⟨_, rfl⟩
      have cN : Hid (∀ w', Calls Tryd.prog 26 #[.int .i64 ((k : Int) + 1)] w' fun e w'' => e = .returned (.string sD) ∧ Below w'.heap.size w' w'') := hide (fun w' => by
        have := sint_any (k + 1) w' (by omega)
        rw [show ((k + 1 : Nat) : Int) = (k : Int) + 1 by omega, hD] at this; exact this)
      have cX := hide (fun w' => stime_any x w' (by omega) (by omega))
      have cY := hide (fun w' => stime_any y w' (by omega) (by omega))
      rw [h1] at cX
      rw [h2] at cY
      rw [hL0] at hstep
      have h1m : (mt x.toNat).length ≤ 12 := by omega
      have h2m : (mt y.toNat).length ≤ 12 := by omega
      clear hx h1l h2l hL0 hab
      generalize Pl.dec (k + 1) = D at *
      generalize mt x.toNat = M1 at *
      generalize mt y.toNat = M2 at *
      generalize shw l k = P at *
      obtain ⟨y1, e1⟩ : ∃ z, (⟨(D ++ [10]).toArray⟩ : ByteArray) = z := ⟨_, rfl⟩
      have a1 := str_add (P := Tryd.prog) (b := [10]) hD rfl e1 (by simp; omega)
      obtain ⟨y2, e2⟩ : ∃ z, (⟨(D ++ [10] ++ M1).toArray⟩ : ByteArray) = z := ⟨_, rfl⟩
      have a2 := str_add (P := Tryd.prog) (b := M1) e1 h1 e2 (by simp; omega)
      obtain ⟨y3, e3⟩ : ∃ z, (⟨(D ++ [10] ++ M1 ++ [32, 45, 45, 62, 32]).toArray⟩ : ByteArray) = z := ⟨_, rfl⟩
      have a3 := str_add (P := Tryd.prog) (b := [32, 45, 45, 62, 32]) e2 rfl e3 (by simp; omega)
      obtain ⟨y4, e4⟩ : ∃ z, (⟨(D ++ [10] ++ M1 ++ [32, 45, 45, 62, 32] ++ M2).toArray⟩ : ByteArray) = z := ⟨_, rfl⟩
      have a4 := str_add (P := Tryd.prog) (b := M2) e3 h2 e4 (by simp; omega)
      obtain ⟨y5, e5⟩ : ∃ z, (⟨(D ++ [10] ++ M1 ++ [32, 45, 45, 62, 32] ++ M2 ++ [10]).toArray⟩ : ByteArray) = z := ⟨_, rfl⟩
      have a5 := str_add (P := Tryd.prog) (b := [10]) e4 rfl e5 (by simp; omega)
      obtain ⟨y6, e6⟩ : ∃ z, (⟨(D ++ [10] ++ M1 ++ [32, 45, 45, 62, 32] ++ M2 ++ [10] ++ L).toArray⟩ : ByteArray) = z := ⟨_, rfl⟩
      have a6 := str_add (P := Tryd.prog) (b := L) e5 hL e6 (by simp; omega)
      obtain ⟨y7, e7⟩ : ∃ z, (⟨(D ++ [10] ++ M1 ++ [32, 45, 45, 62, 32] ++ M2 ++ [10] ++ L ++ [10, 10]).toArray⟩ : ByteArray) = z := ⟨_, rfl⟩
      have a7 := str_add (P := Tryd.prog) (b := [10, 10]) e6 rfl e7 (by simp; omega)
      have hyl : (D ++ [10] ++ M1 ++ [32, 45, 45, 62, 32] ++ M2 ++ [10] ++ L ++ [10, 10]).length ≤ 400 := by simp; omega
      have hY := hide e7
      have hst2 := hide (show P ++ (D ++ [10] ++ M1 ++ [32, 45, 45, 62, 32] ++ M2 ++ [10] ++ L ++ [10, 10]) = shw l (k + 1) from (unhide hstep).symm)
      have tk : IntKind.i64.wrap ((k : Int) + 1) = (k : Int) + 1 := by rw [IntKind.wrap_i64]; omega
      generalize D ++ [10] ++ M1 ++ [32, 45, 45, 62, 32] ++ M2 ++ [10] ++ L ++ [10, 10] = A at *
      clear e1 e2 e3 e4 e5 e6 e7 hD h1 h2 hL hstep
      go_wp2_with fail
      refine (unhide cT _ (unhide hb)).mono ?_
      rintro e w2 ⟨rfl, k2⟩
      have ho2 := hide (ownsRow_below (unhide ho) k2)
      have hb2 := hide (laterB (unhide hb) k2)
      have hs2 := (unhide hb2).size
      obtain ⟨bb, o, rfl, i1, c0, c1, c2⟩ := unhide hab' _ (unhide hb2)
      clear k2 ho hb
      go_wp2_with fail
      have R0 := hide (show Rt w w2.heap.size x y s u3 P (w2.alloc (.cells #[.int .i64 x, .int .i64 y, .string s] 32)) from ⟨(unhide ho2).alloc _, (unhide hb2).alloc hs2 _, alloc_new _ _⟩)
      clear c0 c1 c2 ho2 hb2
      generalize w2.alloc (.cells #[.int .i64 x, .int .i64 y, .string s] 32) = X at *
      generalize w2.heap.size = q at *
      have RD : Hid (Rt w q x y s u3 P X.drew) := hide (unhide R0).draw
      clear R0
      go_region_held3 (fun w' => w'.cell? ⟨q, 0, none⟩ = some (.int .i64 x) ∧ w'.cell? ⟨q, 1, none⟩ = some (.int .i64 y) ∧ w'.cell? ⟨q, 2, none⟩ = some (.string s))
        (first | (with_reducible exact sb_ok (unhide RF).ttl) | (with_reducible exact sb_ok (unhide RD).ttl))
        ((first
          | (go_at_call 26; with_reducible refine (unhide cN _).mono ?_; rintro e w4 ⟨rfl, hb⟩; have RE : Hid (Rt w q x y s u3 P w4) := hide ((unhide RD).later hb); clear RD; have RD := RE; clear RE hb)
          | (go_at_call 27; with_reducible refine (unhide cX _).mono ?_; rintro e w4 ⟨rfl, hb⟩; have RE : Hid (Rt w q x y s u3 P w4) := hide ((unhide RD).later hb); clear RD; have RD := RE; clear RE hb)
          | (go_at_call 27; with_reducible refine (unhide cY _).mono ?_; rintro e w4 ⟨rfl, hb⟩; have RE : Hid (Rt w q x y s u3 P w4) := hide ((unhide RD).later hb); clear RD; have RD := RE; clear RE hb)
          | (refine step_s _ (by rfl) _ _ (by rfl) w.heap.size u3 P A (by rfl) (unhide RD).own y7 (unhide hY) (by rfl) (by omega) (unhide RD).bel.size ?_; intro v5 w5 ho5 hg5; have RF : Hid (Rt w q x y s v5 (P ++ A) w5) := hide ((unhide RD).app ho5 hg5); clear ho5 hg5)))
      all_goals
        have oF := hide (show w5.ownsRow w.heap.size 5 1 v5 (shw l (k + 1)).length ((shw l (k + 1)).map bv) by rw [← unhide hst2]; exact (unhide RF).own)
        have bF := hide (unhide RF).bel
        clear RF RD
        go_wp2
        go_roundw
        case rel => exact ⟨k + 1, by omega, by go_num, oF, bF⟩
        case measure => simp [intOf]; omega
    · have hlt2 : decide ((k : Int) < (l.length : Int)) = false := decide_eq_false (by omega)
      have hltn : decide (k < l.length) = false := decide_eq_false hlt
      have hke : k = l.length := by omega
      have hRk := hide (show (⟨(shw l k).toArray⟩ : ByteArray) = sR by rw [hke]; exact unhide hR')
      generalize shw l k = P at *
      clear hke hR'
      have hcv := conv_own (unhide ho)
      go_wp2
      go_ret
      exact ⟨ret_bytes (unhide hRk), unhide hb⟩

end Go.Proofs.YtcpllfjhhlbmiaaDoor
