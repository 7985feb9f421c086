/-
  For every slice of bytes, what is drawn of it keeps the law on times that are read back and on the text of the frame behind, and the slice reads behind the call as it read before; no conditions.
-/
import Derived.Test.YtffibbcombjkcaaFrame
import Derived.Test.YtffibbcombjkcaaIRd
import Derived.Test.YtffibbcombjkcaaBackP
import Derived.Test.YtffibbcombjkcaaBytes
namespace Go.Proofs.Ytffibbcombjkcaa
open Go.ChangeShapes Go.WideShapes Go.ChangeAt Go.RowKit Go.Joins
set_option linter.unusedVariables false

set_option maxRecDepth 100000 in
set_option maxHeartbeats 1600000 in
theorem lawBack (a : Option Addr) (len cap : Nat) (w : World) (hl : len ≤ 9223372036854775807) (hr : RdB w w.heap.size a len) :
    Calls Try.prog 3 #[.slice a len cap] w fun e w' => e = .returned (.bool true) ∧ Below w.heap.size w w' := by
  have hr' := hide hr
  clear hr
  by_cases hbig : (4096 : Int) < (len : Int)
  · go_enter Try.func3, Try.ntmps3
    go_wp2_with fail
    refine (big_any a len cap _ hl true (by simpa using hbig)).mono ?_
    rintro e w0 ⟨rfl, rfl⟩
    go_wp2
    go_ret
    exact ⟨rfl, Below.refl _ _⟩
  · go_enter Try.func3, Try.ntmps3
    go_wp2_with fail
    refine (big_any a len cap _ hl false (by simpa using hbig)).mono ?_
    rintro e w0 ⟨rfl, rfl⟩
    go_wp2_with fail
    refine (dtime_any a len cap _ (by omega) (unhide hr')).mono ?_
    rintro e w1 ⟨n, d, dr, f, rfl, hb1⟩
    go_wp2_with fail
    refine (itext_any n d dr f _).mono ?_
    rintro e w2 ⟨rfl, hb2⟩
    have hz2 : w1.heap.size < w2.heap.size := by have := hb2.size; simp at this; omega
    have k2 : Below w0.heap.size w0 w2 := hb1.trans ((below_box hb2).mono hb1.size)
    have hc2 := (bcell hb2).1
    have q0 : w2.cell? ⟨w1.heap.size, 0, none⟩ = some (.int .i64 n) := by rw [hc2 _ _ (by simp)]; simp
    have q1 : w2.cell? ⟨w1.heap.size, 1, none⟩ = some (.int .i64 d) := by rw [hc2 _ _ (by simp)]; simp
    have q2 : w2.cell? ⟨w1.heap.size, 2, none⟩ = some (.bool dr) := by rw [hc2 _ _ (by simp)]; simp
    clear hc2
    go_wp2_with fail
    refine (stext_any n d dr f _).mono ?_
    rintro e w3 ⟨rfl, hb3⟩
    have k3 : Below w0.heap.size w0 w3 := k2.trans (hb3.mono k2.size)
    have r0 := cell_later hb3 q0
    have r1 := cell_later hb3 q1
    have r2 := cell_later hb3 q2
    clear q0 q1 q2
    have hlen : (Pl.tt n d dr f).length ≤ 12 := by
      by_cases h : Pl.tt n d dr f = []
      · rw [h]; simp
      · rw [Pl.tt_length h]; split <;> omega
    have hrd := hide (fun w => ird_any n d dr ⟨(Pl.tt n d dr f).toArray⟩ w (by show (Pl.tt n d dr f).toArray.size ≤ _; unfold maxLen; simp; omega))
    have hself : Hid (Pl.tt n d dr f ≠ [] → Pl.RD n d dr (Pl.tt n d dr f) f true) := hide (fun h => .inl ⟨rfl, h, rfl⟩)
    by_cases ht : Pl.tt n d dr f = []
    · rw [ht] at hrd ⊢
      clear hself ht hlen
      go_wp2_with fail
      refine (unhide hrd _).mono ?_
      rintro e w4 ⟨x, ok, rfl, hR, hb4⟩
      have hxo : x = 0 ∧ ok = false := by
        rcases hR with ⟨_, h2, _⟩ | ⟨h1, h2, _⟩
        · exact absurd rfl h2
        · exact ⟨h2, h1⟩
      obtain ⟨rfl, rfl⟩ := hxo
      clear hR
      go_wp2
      go_ret
      exact ⟨rfl, k3.trans (hb4.mono k3.size)⟩
    · have hisf := (Pl.tt_some ht).2.1
      obtain ⟨f1, f2⟩ := Pl.isf_bd hisf
      have hR0 := hide (unhide hself ht)
      have hnx : Hid ((Pl.tt n d dr (f + 1) = [] → f = 10000000 ∨ (Pl.tt n d dr f).take 8 = [57, 57, 58, 53, 57, 58, 53, 57]) ∧ (Pl.tt n d dr (f + 1) ≠ [] → (Pl.tt n d dr (f + 1)).length = (Pl.tt n d dr f).length ∧ Pl.GT (Pl.tt n d dr (f + 1)) (Pl.tt n d dr f))) := hide ⟨fun h => Pl.tt_last ht h, fun h => Pl.tt_next ht h⟩
      have hl8 : 8 ≤ (Pl.tt n d dr f).length := by rw [Pl.tt_length ht]; split <;> omega
      generalize htt : Pl.tt n d dr f = t at *
      have hte : t.isEmpty = false := by simpa using ht
      have hte2 : (t == []) = false := by simpa using ht
      clear hself ht hisf htt
      go_wp2_with fail
      refine (unhide hrd _).mono ?_
      rintro e w4 ⟨x, ok, rfl, hR, hb4⟩
      obtain ⟨rfl, rfl⟩ := Pl.RD_one (unhide hR0) hR
      clear hR hR0 hrd
      have k4 : Below w0.heap.size w0 w4 := k3.trans (hb4.mono k3.size)
      have s0 := cell_later hb4 r0
      have s1 := cell_later hb4 r1
      have s2 := cell_later hb4 r2
      clear r0 r1 r2
      go_wp2_with fail
      refine (itext_any n d dr (f + 1) _).mono ?_
      rintro e w5 ⟨rfl, hb5⟩
      have k5 : Below w0.heap.size w0 w5 := k4.trans (hb5.mono k4.size)
      generalize Pl.tt n d dr (f + 1) = u at *
      obtain ⟨n1, n2⟩ := unhide hnx
      clear s0 s1 s2 hnx
      by_cases hu : u = []
      · have n1' := n1 hu
        subst hu
        clear n1 n2
        by_cases hm : f = 10000000
        · have hm' : (f == 10000000) = true := by simpa using hm
          clear hm n1'
          go_wp2
          go_ret
          exact ⟨rfl, k5⟩
        · have hm' : (f == 10000000) = false := by simpa using hm
          have h8 : t.take 8 = [57, 57, 58, 53, 57, 58, 53, 57] := by
            rcases n1' with h | h
            · exact absurd h hm
            · exact h
          have h8w : (((⟨t.toArray⟩ : ByteArray).extract 0 8).toList == [57, 57, 58, 53, 57, 58, 53, 57]) = true := by
            rw [ByteArray.toList_eq, ByteArray.data_extract]
            simp [h8]
          clear hm n1' h8
          go_wp2
          go_ret
          exact ⟨rfl, k5⟩
      · obtain ⟨v1, v2, v3⟩ := n2 hu
        have hue : u.isEmpty = false := by simpa using hu
        have hue2 : (u == []) = false := by simpa using hu
        have g2 : (u == t) = false := by simpa using v3
        have g3 : ((u.length : Int) == (t.length : Int)) = true := by simp; omega
        have v1' := hide v1
        clear n1 n2 hu v3 v1
        go_wp2
        go_ret
        exact ⟨rfl, k5⟩

set_option maxRecDepth 100000 in
theorem liftBack (os : Os) (started : os.Started) (H : Type) (enc : TypeId × Value → H) :
    ReturnsInHanded {} Try.checked os 3 .any (Rows.fnTimeBackSpec.pre6 enc Try.prog Try.f3 Rows.fnTimeBackRow.domain false) (Rows.fnTimeBackSpec.post enc Try.prog Try.f3 false true false false) := by
  refine returnsInHanded_of_change (C := Try.checked) own started (by kernel_rfl) Try.func3
    (ChangeSpec.witness6 (enc := enc) (C := Try.checked) false ⟨#[], #[.slice none 0 0], []⟩ 8 (by kernel_rfl) (by kernel_rfl) (by kernel_rfl) (by kernel_rfl)) ?_
  intro W base args ds gs before hval0 hW hcnd _
  have hval : ∀ (j : Nat) t v, Try.f3.params[j]? = some t → args[j]? = some v → Value.okWide Try.prog W .any base t v := hval0
  have hW' := hW
  obtain ⟨p, q, hA0, hV, rfl, hfz, hnd⟩ := hW
  have hA : DataW.TrodAll enc Try.prog W 0 (fun _ => true) true Try.f3.params.toList args.toList ds p := hA0
  rw [Try.params3] at hA hval
  obtain ⟨v0, vs0, d0, ds0, p0, q0, hargs, rfl, rfl, h0, r0⟩ := trodAll_cons hA
  obtain ⟨rfl, rfl, rfl⟩ := trodAll_nil r0
  obtain rfl : args = #[v0] := by cases args; simp_all
  obtain ⟨rfl, rfl⟩ := trodVars_none hV
  obtain ⟨a0, len0, cap0, rfl⟩ := okWide_slice Try.underlying22 (hval 0 22 v0 rfl rfl)
  have k0 := h0
  have lt0 : ∀ x ∈ p0, x.block < W.heap.size := by obtain ⟨m, hm⟩ := k0; exact DataW.trod_lt m _ _ _ hm
  obtain ⟨z0, w0⟩ : ∃ zs, IsRow .u8 W a0 len0 cap0 zs := by
    obtain ⟨fuel, hf⟩ := h0
    rcases open_ints Try.underlying22 Try.underlying5 (by kernel_rfl) hf with ⟨hcs, _⟩ | ⟨x, l, c, zs, hcs, _, hl, hm, hz, _, hcell, hwz⟩
    · simp [Value.cells] at hcs
      obtain ⟨rfl, rfl, rfl⟩ := hcs
      exact ⟨[], .inl ⟨rfl, rfl, rfl, rfl⟩⟩
    · simp [Value.cells] at hcs
      obtain ⟨rfl, rfl, rfl⟩ := hcs
      exact ⟨zs, .inr ⟨_, rfl, hl, hm, by simpa using hz, hcell, hwz⟩⟩
  clear hA0 hval0
  refine (lawBack a0 len0 cap0 W (by have := (isRow_rd w0).2; unfold maxLen at this; omega) (isRow_rd w0).1).mono fun e W' ⟨he, bel⟩ => ?_
  subst he
  exact ⟨_, rfl, _, _, _, [], _, [], hW', trodAll_mk1 (shut_bool Try.underlying4 _), (trodAll_cons_mk (Below.trod laidOut (by kernel_rfl) (of_decide_eq_true (by kernel_rfl)) k0 bel lt0) trodAll_mk0), rfl, bel.frame _, fun h => by cases h⟩

theorem holdsBack : Rows.FnTimeBackSaid :=
  OpenClaim.holds_of_wide 3 Try.f3 rfl rfl rfl rfl rfl rfl rfl ⟨rfl, rfl, rfl, rfl, rfl⟩ rfl rfl rfl rfl rfl (by kernel_rfl) Try.func3 (by kernel_rfl)
    (of_decide_eq_true (by kernel_rfl)) (by unfold Func.isWrapper; first | (rw [if_pos (by decide +kernel)]; kernel_rfl) | (rw [if_neg (by decide +kernel)]; exact ⟨rfl, rfl⟩))
    (fun os started H enc _ => liftBack os started H enc)

#print axioms holdsBack
end Go.Proofs.Ytffibbcombjkcaa
