/-
  Contracts of the model's draws of a level and of a colour, over a cursor on bytes that came in: each answers, within its bounds; what was there but for the cursor stays.
-/
import Derived.Test.YtdmcbdogpeidjaaDrC
namespace Go.Proofs.Ytdmcbdogpeidjaa
open Go.RowKit
set_option linter.unusedVariables false
set_option linter.unusedSimpArgs false

theorem lit6 {w : World} {T : TypeId} {k : Nat} (hk : k < 6) : ∃ v : Int, LvOk v ∧ (w.alloc (.cells #[.int .i64 0, .int .i64 65535, .int .i64 32767, .int .i64 32768, .int .i64 16384, .int .i64 1] T)).cell? ⟨w.heap.size, k, none⟩ = some (.int .i64 v) := by
  match k, hk with
  | 0, _ => exact ⟨0, by decide, by simp [go_sem]⟩
  | 1, _ => exact ⟨65535, by decide, by simp [go_sem]⟩
  | 2, _ => exact ⟨32767, by decide, by simp [go_sem]⟩
  | 3, _ => exact ⟨32768, by decide, by simp [go_sem]⟩
  | 4, _ => exact ⟨16384, by decide, by simp [go_sem]⟩
  | 5, _ => exact ⟨1, by decide, by simp [go_sem]⟩

set_option maxHeartbeats 800000 in
theorem dval_any (B g : Nat) (a : Option Addr) (len cap : Nat) (w : World) (hB : B ≤ g) (hl : len ≤ 9223372036854775807) (hc : CurAt w g a len cap) (hr : RdB w B a len) :
    Calls Try.prog 65 #[.pointer (some ⟨g, 0, none⟩)] w fun e w' => ∃ x, e = .returned (.int .i64 x) ∧ LvOk x ∧ CurAt w' g a len cap ∧ w.grownBy w' (some g) := by
  have hc' := hide hc
  have hr' := hide hr
  clear hc hr
  go_enter Try.func65, Try.ntmps65
  go_wp2_with fail
  refine (once_any B g a len cap 5 _ hB hl (unhide hc') (unhide hr') (by omega)).mono ?_
  rintro e w1 ⟨b, rfl, k1, g1⟩
  have r1 := hide ((unhide hr').grown g1 hB)
  have c1 := hide k1
  have gl := k1.lt
  have hg1 := hide g1
  clear k1 g1
  cases b
  · go_wp2_with fail
    refine (below_any B g a len cap 65536 _ hB hl (unhide c1) (unhide r1) (by omega)).mono ?_
    rintro e w2 ⟨x, rfl, x0, x1, k2, g2⟩
    go_wp2
    go_ret
    exact ⟨x, rfl, ⟨x0, by omega⟩, k2, grown_trans (unhide hg1) g2⟩
  · have hal : Below w1.heap.size w1 (w1.alloc (.cells #[.int .i64 0, .int .i64 65535, .int .i64 32767, .int .i64 32768, .int .i64 16384, .int .i64 1] 2)) := (Below.refl _ _).alloc (Nat.le_refl _) _
    have c2 := hide ((unhide c1).below hal)
    have r2 := hide ((unhide r1).grown (g := g) (grown_below hal) hB)
    have hg2 := hide (grown_trans (unhide hg1) (grown_below hal))
    clear hal c1 r1 hg1
    go_wp2_with fail
    refine (below_any B g a len cap 6 _ hB hl (unhide c2) (unhide r2) (by omega)).mono ?_
    rintro e w2 ⟨x, rfl, x0, x1, k2, g2⟩
    obtain ⟨k, rfl⟩ := Int.eq_ofNat_of_zero_le x0
    obtain ⟨v, hv, hcv⟩ := lit6 (w := w1) (T := 2) (k := k) (by omega)
    have hcv2 := grown_cell g2 (by omega) hcv
    have hk2 := hide k2
    have hg3 := hide (grown_trans (unhide hg2) g2)
    have hv' := hide hv
    clear hcv g2 k2 hv
    go_wp2
    go_ret
    exact ⟨v, rfl, unhide hv', unhide hk2, unhide hg3⟩

set_option maxHeartbeats 3200000 in
theorem drgb_any (B g : Nat) (a : Option Addr) (len cap : Nat) (w : World) (hB : B ≤ g) (hBw : B ≤ w.heap.size) (hl : len ≤ 9223372036854775807) (hc : CurAt w g a len cap) (hr : RdB w B a len) :
    Calls Try.prog 38 #[.pointer (some ⟨g, 0, none⟩)] w fun e w' => ∃ x y z, e = .returned (ag3 x y z) ∧ LvOk y ∧ LvOk z ∧ CurAt w' g a len cap ∧ w.grownBy w' (some g) := by
  have hc' := hide hc
  have hr' := hide hr
  have gl0 := hc.lt
  clear hc hr
  have hal : Below w.heap.size w (w.alloc (.cells #[.int .i64 0, .int .i64 0, .int .i64 0] 26)) := (Below.refl _ _).alloc (Nat.le_refl _) _
  have D0 : Hid (DS w B g a len cap (w.alloc (.cells #[.int .i64 0, .int .i64 0, .int .i64 0] 26))) := hide ⟨(unhide hc').below hal, (unhide hr').grown (g := g) (grown_below hal) hB, grown_below hal⟩
  have K0 : Hid (Ck3 (w.alloc (.cells #[.int .i64 0, .int .i64 0, .int .i64 0] 26)) w.heap.size) := hide ⟨⟨0, 0, 0, by simp [go_sem], by simp [go_sem], by simp [go_sem]⟩, by simp [go_sem], by simp [go_sem], by simp [go_sem]⟩
  clear hal hc' hr'
  go_enter Try.func38, Try.ntmps38
  go_wp2_with fail
  refine (dval_any B g a len cap _ hB hl (unhide D0).cur (unhide D0).rd).mono ?_
  rintro e w1 ⟨x0, rfl, lx0, k1, g1⟩
  have D1 := hide ((unhide D0).step hB k1 g1)
  have K1 := hide ((unhide K0).grown g1 (by omega))
  have lv0 := hide lx0
  clear k1 g1 D0 K0 lx0
  go_wp2_with fail
  refine (dval_any B g a len cap _ hB hl (unhide D1).cur (unhide D1).rd).mono ?_
  rintro e w2 ⟨x1, rfl, lx1, k1, g1⟩
  have D2 := hide ((unhide D1).step hB k1 g1)
  have K2 := hide ((unhide K1).grown g1 (by omega))
  have lv1 := hide lx1
  clear k1 g1 D1 K1 lx1
  go_wp2_with fail
  refine (dval_any B g a len cap _ hB hl (unhide D2).cur (unhide D2).rd).mono ?_
  rintro e w3 ⟨x2, rfl, lx2, k1, g1⟩
  have D3 := hide ((unhide D2).step hB k1 g1)
  have K3 := hide ((unhide K2).grown g1 (by omega))
  have lv2 := hide lx2
  clear k1 g1 D2 K2 lx2
  have gw3 : w.heap.size < w3.heap.size := (unhide K3).lt
  have hal : Below w3.heap.size w3 (w3.alloc (.cells #[.int .i64 x0, .int .i64 x1, .int .i64 x2] 26)) := (Below.refl _ _).alloc (Nat.le_refl _) _
  have S3 : Hid (St w B g a len cap w.heap.size w3.heap.size (w3.alloc (.cells #[.int .i64 x0, .int .i64 x1, .int .i64 x2] 26)) x0 x1 x2) := hide ⟨(unhide D3).later hB hal, (unhide K3).block (hal.block _ (by omega)), by simp [go_sem], by simp [go_sem], by simp [go_sem], by simp [go_sem], by simp [go_sem], by simp [go_sem]⟩
  have gl3 : g < w3.heap.size := (unhide D3).cur.lt
  clear hal D3 K3
  go_wp2_with fail
  refine (once_any B g a len cap 6 _ hB hl (unhide S3).ds.cur (unhide S3).ds.rd (by omega)).mono ?_
  rintro e w6 ⟨bb, rfl, k1, g1⟩
  have S3n := hide ((unhide S3).call hB (by omega) (by omega) k1 g1)
  have ⟨_, _, cc0, cc1, cc2, ff0, ff1, ff2⟩ := unhide S3n
  clear k1 g1
  cases bb
  · go_wp2_with fail
    refine (once_any B g a len cap 6 _ hB hl (unhide S3n).ds.cur (unhide S3n).ds.rd (by omega)).mono ?_
    rintro e w7 ⟨bb, rfl, k1, g1⟩
    have S3nn := hide ((unhide S3n).call hB (by omega) (by omega) k1 g1)
    have ⟨_, _, cc0, cc1, cc2, ff0, ff1, ff2⟩ := unhide S3nn
    clear k1 g1
    cases bb
    · go_wp2_with fail
      refine (once_any B g a len cap 40 _ hB hl (unhide S3nn).ds.cur (unhide S3nn).ds.rd (by omega)).mono ?_
      rintro e w8 ⟨bb, rfl, k1, g1⟩
      have S3nnn := hide ((unhide S3nn).call hB (by omega) (by omega) k1 g1)
      have ⟨_, _, cc0, cc1, cc2, ff0, ff1, ff2⟩ := unhide S3nnn
      clear k1 g1
      cases bb
      · obtain ⟨⟨_, _, _, rc0, rc1, rc2⟩, rf0, rf1, rf2⟩ := (unhide S3nnn).rr
        go_wp2
        refine bodyPost_ret (v := ag3 x0 x1 x2) (by simp [results, Try.results38, go_sem, rc0, rc1, rc2]) rfl ⟨x0, x1, x2, rfl, unhide lv1, unhide lv2, ?_, ?_⟩
        · exact ((unhide S3nnn).fin hB (Nat.le_refl _) (by omega) (by omega)).cur
        · exact ((unhide S3nnn).fin hB (Nat.le_refl _) (by omega) (by omega)).gr
      · have hal : Below w8.heap.size w8 (w8.alloc (.cells #[.int .i64 (-1), .int .i64 65536, .int .i64 4611686018427387904] 2)) := (Below.refl _ _).alloc (Nat.le_refl _) _
        have gw8 : w3.heap.size < w8.heap.size := World.block_lt_of_cell? _ _ cc0
        have gw9 : g < w8.heap.size := (unhide S3nnn).ds.cur.lt
        have S3nnm := hide ((unhide S3nnn).later hB (by omega) (by omega) hal)
        clear hal cc0 cc1 cc2 ff0 ff1 ff2
        go_wp2_with fail
        refine (below_any B g a len cap 3 _ hB hl (unhide S3nnm).ds.cur (unhide S3nnm).ds.rd (by omega)).mono ?_
        rintro e w9 ⟨xx, rfl, xx0, xx1, k1, g1⟩
        obtain ⟨k, rfl⟩ := Int.eq_ofNat_of_zero_le xx0
        obtain ⟨v, hcv⟩ := lit3 (w := w8) (T := 2) (a0 := -1) (a1 := 65536) (a2 := 4611686018427387904) (k := k) (by omega)
        have hcv2 := grown_cell g1 (by omega) hcv
        have S3nnk := hide ((unhide S3nnm).call hB (by omega) (by omega) k1 g1)
        have ⟨_, _, cc0, cc1, cc2, ff0, ff1, ff2⟩ := unhide S3nnk
        have S3nnf := hide ((unhide S3nnk).set0 hB (by omega) (by omega) (by omega) (by omega) v)
        have rr9 := (unhide S3nnf).rr
        obtain ⟨⟨_, _, _, rc0, rc1, rc2⟩, rf0, rf1, rf2⟩ := (unhide S3nnk).rr
        clear k1 g1 hcv
        go_wp2
        refine bodyPost_ret (v := ag3 v x1 x2) (by simp [results, Try.results38, go_sem, rc0, rc1, rc2]) rfl ⟨v, x1, x2, rfl, unhide lv1, unhide lv2, ?_, ?_⟩
        · exact ((unhide S3nnf).fin hB (Nat.le_refl _) (by omega) (by omega)).cur
        · exact ((unhide S3nnf).fin hB (Nat.le_refl _) (by omega) (by omega)).gr
    · have S3ns := hide ((unhide S3nn).set2 hB (by omega) (by omega) (by omega) (by omega) x1)
      go_wp2_with fail
      refine (once_any B g a len cap 40 _ hB hl (unhide S3ns).ds.cur (unhide S3ns).ds.rd (by omega)).mono ?_
      rintro e w8 ⟨bb, rfl, k1, g1⟩
      have S3nsn := hide ((unhide S3ns).call hB (by omega) (by omega) k1 g1)
      have ⟨_, _, cc0, cc1, cc2, ff0, ff1, ff2⟩ := unhide S3nsn
      clear k1 g1
      cases bb
      · obtain ⟨⟨_, _, _, rc0, rc1, rc2⟩, rf0, rf1, rf2⟩ := (unhide S3nsn).rr
        go_wp2
        refine bodyPost_ret (v := ag3 x0 x1 x1) (by simp [results, Try.results38, go_sem, rc0, rc1, rc2]) rfl ⟨x0, x1, x1, rfl, unhide lv1, unhide lv1, ?_, ?_⟩
        · exact ((unhide S3nsn).fin hB (Nat.le_refl _) (by omega) (by omega)).cur
        · exact ((unhide S3nsn).fin hB (Nat.le_refl _) (by omega) (by omega)).gr
      · have hal : Below w8.heap.size w8 (w8.alloc (.cells #[.int .i64 (-1), .int .i64 65536, .int .i64 4611686018427387904] 2)) := (Below.refl _ _).alloc (Nat.le_refl _) _
        have gw8 : w3.heap.size < w8.heap.size := World.block_lt_of_cell? _ _ cc0
        have gw9 : g < w8.heap.size := (unhide S3nsn).ds.cur.lt
        have S3nsm := hide ((unhide S3nsn).later hB (by omega) (by omega) hal)
        clear hal cc0 cc1 cc2 ff0 ff1 ff2
        go_wp2_with fail
        refine (below_any B g a len cap 3 _ hB hl (unhide S3nsm).ds.cur (unhide S3nsm).ds.rd (by omega)).mono ?_
        rintro e w9 ⟨xx, rfl, xx0, xx1, k1, g1⟩
        obtain ⟨k, rfl⟩ := Int.eq_ofNat_of_zero_le xx0
        obtain ⟨v, hcv⟩ := lit3 (w := w8) (T := 2) (a0 := -1) (a1 := 65536) (a2 := 4611686018427387904) (k := k) (by omega)
        have hcv2 := grown_cell g1 (by omega) hcv
        have S3nsk := hide ((unhide S3nsm).call hB (by omega) (by omega) k1 g1)
        have ⟨_, _, cc0, cc1, cc2, ff0, ff1, ff2⟩ := unhide S3nsk
        have S3nsf := hide ((unhide S3nsk).set0 hB (by omega) (by omega) (by omega) (by omega) v)
        have rr9 := (unhide S3nsf).rr
        obtain ⟨⟨_, _, _, rc0, rc1, rc2⟩, rf0, rf1, rf2⟩ := (unhide S3nsk).rr
        clear k1 g1 hcv
        go_wp2
        refine bodyPost_ret (v := ag3 v x1 x1) (by simp [results, Try.results38, go_sem, rc0, rc1, rc2]) rfl ⟨v, x1, x1, rfl, unhide lv1, unhide lv1, ?_, ?_⟩
        · exact ((unhide S3nsf).fin hB (Nat.le_refl _) (by omega) (by omega)).cur
        · exact ((unhide S3nsf).fin hB (Nat.le_refl _) (by omega) (by omega)).gr
  · have S3s := hide ((unhide S3n).set1 hB (by omega) (by omega) (by omega) (by omega) x0)
    go_wp2_with fail
    refine (once_any B g a len cap 6 _ hB hl (unhide S3s).ds.cur (unhide S3s).ds.rd (by omega)).mono ?_
    rintro e w7 ⟨bb, rfl, k1, g1⟩
    have S3sn := hide ((unhide S3s).call hB (by omega) (by omega) k1 g1)
    have ⟨_, _, cc0, cc1, cc2, ff0, ff1, ff2⟩ := unhide S3sn
    clear k1 g1
    cases bb
    · go_wp2_with fail
      refine (once_any B g a len cap 40 _ hB hl (unhide S3sn).ds.cur (unhide S3sn).ds.rd (by omega)).mono ?_
      rintro e w8 ⟨bb, rfl, k1, g1⟩
      have S3snn := hide ((unhide S3sn).call hB (by omega) (by omega) k1 g1)
      have ⟨_, _, cc0, cc1, cc2, ff0, ff1, ff2⟩ := unhide S3snn
      clear k1 g1
      cases bb
      · obtain ⟨⟨_, _, _, rc0, rc1, rc2⟩, rf0, rf1, rf2⟩ := (unhide S3snn).rr
        go_wp2
        refine bodyPost_ret (v := ag3 x0 x0 x2) (by simp [results, Try.results38, go_sem, rc0, rc1, rc2]) rfl ⟨x0, x0, x2, rfl, unhide lv0, unhide lv2, ?_, ?_⟩
        · exact ((unhide S3snn).fin hB (Nat.le_refl _) (by omega) (by omega)).cur
        · exact ((unhide S3snn).fin hB (Nat.le_refl _) (by omega) (by omega)).gr
      · have hal : Below w8.heap.size w8 (w8.alloc (.cells #[.int .i64 (-1), .int .i64 65536, .int .i64 4611686018427387904] 2)) := (Below.refl _ _).alloc (Nat.le_refl _) _
        have gw8 : w3.heap.size < w8.heap.size := World.block_lt_of_cell? _ _ cc0
        have gw9 : g < w8.heap.size := (unhide S3snn).ds.cur.lt
        have S3snm := hide ((unhide S3snn).later hB (by omega) (by omega) hal)
        clear hal cc0 cc1 cc2 ff0 ff1 ff2
        go_wp2_with fail
        refine (below_any B g a len cap 3 _ hB hl (unhide S3snm).ds.cur (unhide S3snm).ds.rd (by omega)).mono ?_
        rintro e w9 ⟨xx, rfl, xx0, xx1, k1, g1⟩
        obtain ⟨k, rfl⟩ := Int.eq_ofNat_of_zero_le xx0
        obtain ⟨v, hcv⟩ := lit3 (w := w8) (T := 2) (a0 := -1) (a1 := 65536) (a2 := 4611686018427387904) (k := k) (by omega)
        have hcv2 := grown_cell g1 (by omega) hcv
        have S3snk := hide ((unhide S3snm).call hB (by omega) (by omega) k1 g1)
        have ⟨_, _, cc0, cc1, cc2, ff0, ff1, ff2⟩ := unhide S3snk
        have S3snf := hide ((unhide S3snk).set0 hB (by omega) (by omega) (by omega) (by omega) v)
        have rr9 := (unhide S3snf).rr
        obtain ⟨⟨_, _, _, rc0, rc1, rc2⟩, rf0, rf1, rf2⟩ := (unhide S3snk).rr
        clear k1 g1 hcv
        go_wp2
        refine bodyPost_ret (v := ag3 v x0 x2) (by simp [results, Try.results38, go_sem, rc0, rc1, rc2]) rfl ⟨v, x0, x2, rfl, unhide lv0, unhide lv2, ?_, ?_⟩
        · exact ((unhide S3snf).fin hB (Nat.le_refl _) (by omega) (by omega)).cur
        · exact ((unhide S3snf).fin hB (Nat.le_refl _) (by omega) (by omega)).gr
    · have S3ss := hide ((unhide S3sn).set2 hB (by omega) (by omega) (by omega) (by omega) x0)
      go_wp2_with fail
      refine (once_any B g a len cap 40 _ hB hl (unhide S3ss).ds.cur (unhide S3ss).ds.rd (by omega)).mono ?_
      rintro e w8 ⟨bb, rfl, k1, g1⟩
      have S3ssn := hide ((unhide S3ss).call hB (by omega) (by omega) k1 g1)
      have ⟨_, _, cc0, cc1, cc2, ff0, ff1, ff2⟩ := unhide S3ssn
      clear k1 g1
      cases bb
      · obtain ⟨⟨_, _, _, rc0, rc1, rc2⟩, rf0, rf1, rf2⟩ := (unhide S3ssn).rr
        go_wp2
        refine bodyPost_ret (v := ag3 x0 x0 x0) (by simp [results, Try.results38, go_sem, rc0, rc1, rc2]) rfl ⟨x0, x0, x0, rfl, unhide lv0, unhide lv0, ?_, ?_⟩
        · exact ((unhide S3ssn).fin hB (Nat.le_refl _) (by omega) (by omega)).cur
        · exact ((unhide S3ssn).fin hB (Nat.le_refl _) (by omega) (by omega)).gr
      · have hal : Below w8.heap.size w8 (w8.alloc (.cells #[.int .i64 (-1), .int .i64 65536, .int .i64 4611686018427387904] 2)) := (Below.refl _ _).alloc (Nat.le_refl _) _
        have gw8 : w3.heap.size < w8.heap.size := World.block_lt_of_cell? _ _ cc0
        have gw9 : g < w8.heap.size := (unhide S3ssn).ds.cur.lt
        have S3ssm := hide ((unhide S3ssn).later hB (by omega) (by omega) hal)
        clear hal cc0 cc1 cc2 ff0 ff1 ff2
        go_wp2_with fail
        refine (below_any B g a len cap 3 _ hB hl (unhide S3ssm).ds.cur (unhide S3ssm).ds.rd (by omega)).mono ?_
        rintro e w9 ⟨xx, rfl, xx0, xx1, k1, g1⟩
        obtain ⟨k, rfl⟩ := Int.eq_ofNat_of_zero_le xx0
        obtain ⟨v, hcv⟩ := lit3 (w := w8) (T := 2) (a0 := -1) (a1 := 65536) (a2 := 4611686018427387904) (k := k) (by omega)
        have hcv2 := grown_cell g1 (by omega) hcv
        have S3ssk := hide ((unhide S3ssm).call hB (by omega) (by omega) k1 g1)
        have ⟨_, _, cc0, cc1, cc2, ff0, ff1, ff2⟩ := unhide S3ssk
        have S3ssf := hide ((unhide S3ssk).set0 hB (by omega) (by omega) (by omega) (by omega) v)
        have rr9 := (unhide S3ssf).rr
        obtain ⟨⟨_, _, _, rc0, rc1, rc2⟩, rf0, rf1, rf2⟩ := (unhide S3ssk).rr
        clear k1 g1 hcv
        go_wp2
        refine bodyPost_ret (v := ag3 v x0 x0) (by simp [results, Try.results38, go_sem, rc0, rc1, rc2]) rfl ⟨v, x0, x0, rfl, unhide lv0, unhide lv0, ?_, ?_⟩
        · exact ((unhide S3ssf).fin hB (Nat.le_refl _) (by omega) (by omega)).cur
        · exact ((unhide S3ssf).fin hB (Nat.le_refl _) (by omega) (by omega)).gr
end Go.Proofs.Ytdmcbdogpeidjaa
