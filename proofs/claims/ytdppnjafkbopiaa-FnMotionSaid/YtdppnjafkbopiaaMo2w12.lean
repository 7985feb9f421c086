/-
  Contract of a block's pixels, moved, to the model, in a picture 12 wide; nothing that was there is written.
-/
import Derived.Test.YtdppnjafkbopiaaMo2
namespace Go.Proofs.Ytdppnjafkbopiaa
open Go.RowKit
set_option linter.unusedVariables false
set_option linter.unusedSimpArgs false

set_option maxHeartbeats 3200000 in
theorem sblk12_any (H : Int) (a : Option Addr) (cap : Nat) (l : List Int) (n dx dy : Int) (w : World) (hp : PcOk 12 H l) (hk : Ins w a l) (n0 : 0 ≤ n) (n1 : n < nBl 12 H) (hm : InM dx dy) :
    Calls Try.prog 28 #[pcv 12 H a l.length cap, .int .i64 n, .int .i64 dx, .int .i64 dy] w (AnI w (fl (blk 12 H l n dx dy) 16)) := by
  obtain ⟨cb1, cb2, cb3, cb4, cb5, cb6⟩ := cor_bd hp.1 hp.2.1 n0 n1
  have hQ : ((12 : Int)) / 4 = 3 := by decide
  have hat := hide (fun (x y : Nat) (hx : x < 4) => blk_at 12 H l n dx dy x y hx)
  have sW := side4_bd hp.1
  have sH := side4_bd hp.2.1
  have hn16 : n < 16 := by have := (nBl_eq hp.1 hp.2.1).2.2; omega
  rw [hQ] at cb3 cb4 cb5 cb6 hat
  clear cb1 cb2
  unfold InM at hm
  obtain ⟨h1, h2, h3, h4⟩ := hm
  have hp' := hide hp
  have b0 : Below w.heap.size w (w.alloc (.cells #[.int .i64 12, .int .i64 H, .slice a l.length cap] 26)) := (Below.refl _ _).alloc (Nat.le_refl _) _
  have hk1 := hide (hk.below b0)
  have p0 := P3.new w 26 12 H (.slice a l.length cap)
  have z0 := Deep.nblk_alloc w (.cells #[.int .i64 12, .int .i64 H, .slice a l.length cap] 26)
  generalize hB : nBl 12 H = N at *
  clear hp hk n1 hB
  go_enter Try.func28, Try.ntmps28
  go_wp2
  generalize w.alloc (.cells #[.int .i64 12, .int .i64 H, .slice a l.length cap] 26) = w1 at *
  have o1 := hide (ownI_lit0 w1 (Nat.le_refl w1.heap.size))
  have b1 : Below w1.heap.size w1 (w1.alloc (.cells #[] 2)) := (Below.refl _ _).alloc (Nat.le_refl _) _
  rw [z0] at o1
  have b1' := hide b1
  have bw := hide b0
  have pc := hide p0.cells
  have wl : w.heap.size < w1.heap.size := by omega
  have z1 : w1.heap.size = w.heap.size + 1 := z0
  have z2 := hide z1
  clear b0 b1 z0 z1 p0
  generalize hw2 : w1.alloc (.cells #[] 2) = w2 at *
  clear hw2
  go_loopw [9, 11] (fun s t wr => ∃ (y g c : Nat), y ≤ 4 ∧ t = .int .i64 y ∧ s = .slice (some ⟨g, 0, none⟩) (4 * y) c ∧ Hid (OwnI wr w1.heap.size g (4 * y) c (fl (blk 12 H l n dx dy) (4 * y))) ∧ Hid (Below w1.heap.size w1 wr)) (fun _ t _ => 4 - (intOf t).toNat)
  case atStart => exact ⟨0, _, _, by omega, rfl, rfl, hide (by rw [unhide z2]; exact unhide o1), b1'⟩
  case round =>
    clear o1 b1'
    obtain ⟨y, g, c, hy, rfl, rfl, ho, hb⟩ := hrel
    by_cases hly : y < 4
    · have hly2 : decide ((y : Int) < 4) = true := decide_eq_true (by omega)
      rename World => wa
      go_wp2
      go_loopw [9, 12] (fun s t wr => ∃ (x g c : Nat), x ≤ 4 ∧ t = .int .i64 x ∧ s = .slice (some ⟨g, 0, none⟩) (4 * y + x) c ∧ Hid (OwnI wr w1.heap.size g (4 * y + x) c (fl (blk 12 H l n dx dy) (4 * y + x))) ∧ Hid (Below w1.heap.size w1 wr)) (fun _ t _ => 4 - (intOf t).toNat)
      case atStart => exact ⟨0, g, c, by omega, rfl, rfl, ho, hb⟩
      case round =>
        clear ho hb
        obtain ⟨x, g, c, hx, rfl, rfl, ho, hb⟩ := hrel
        have hsz := (unhide hb).size
        by_cases hlx : x < 4
        · have hv := hide (unhide hat x y hlx)
          obtain ⟨v, hv2⟩ : ∃ v, pxA 12 H l (n % 3 * 4 + x + dx) (n / 3 * 4 + y + dy) = v := ⟨_, rfl⟩
          have hv3 := hide hv2
          have hfl := hide (show fl (blk 12 H l n dx dy) (4 * y + x) ++ [v] = fl (blk 12 H l n dx dy) (4 * y + x + 1) by rw [← fl_snoc, unhide hv, hv2])
          have hall : Hid (wr.cell? ⟨w.heap.size, 0, none⟩ = some (.int .i64 12) ∧ wr.cell? ⟨w.heap.size, 1, none⟩ = some (.int .i64 H) ∧ wr.cell? ⟨w.heap.size, 2, none⟩ = some (.slice a l.length cap) ∧ Below w1.heap.size w1 wr) := hide ⟨((bcell (unhide hb)).1 _ _ wl).trans (unhide pc).1, ((bcell (unhide hb)).1 _ _ wl).trans (unhide pc).2.1, ((bcell (unhide hb)).1 _ _ wl).trans (unhide pc).2.2, unhide hb⟩
          have c63 := hide (show ∀ w', Below w1.heap.size w1 w' → Calls Try.prog 21 #[pcv 12 H a l.length cap, .int .i64 (IntKind.i64.wrap (IntKind.i64.wrap (IntKind.i64.wrap (n.tmod 3 * 4) + (x : Int)) + dx)), .int .i64 (IntKind.i64.wrap (IntKind.i64.wrap (IntKind.i64.wrap (IntKind.i64.wrap (n.tdiv 3) * 4) + (y : Int)) + dy))] w' fun e w'' => e = .returned (.int .i64 v) ∧ Below w'.heap.size w' w'' from fun w' hb' => by
            have := sat_any 12 H a cap l (n % 3 * 4 + x + dx) (n / 3 * 4 + y + dy) w' (unhide hp') ((unhide hk1).below hb') (by omega) (by omega)
            have eX : (IntKind.i64.wrap (IntKind.i64.wrap (IntKind.i64.wrap (n.tmod 3 * 4) + (x : Int)) + dx)) = n % 3 * 4 + x + dx := by rw [Int.tmod_eq_emod_of_nonneg n0]; simp only [IntKind.wrap_i64]; omega
            have eY : (IntKind.i64.wrap (IntKind.i64.wrap (IntKind.i64.wrap (IntKind.i64.wrap (n.tdiv 3) * 4) + (y : Int)) + dy)) = n / 3 * 4 + y + dy := by rw [Int.tdiv_eq_ediv_of_nonneg n0]; simp only [IntKind.wrap_i64]; omega
            rw [hv2] at this
            rw [eX, eY]
            exact this)
          clear hv hv2
          go_wp2_with fail
          go_region_held3 (fun w' => w'.cell? ⟨w.heap.size, 0, none⟩ = some (.int .i64 12) ∧ w'.cell? ⟨w.heap.size, 1, none⟩ = some (.int .i64 H) ∧ w'.cell? ⟨w.heap.size, 2, none⟩ = some (.slice a l.length cap) ∧ Below w1.heap.size w1 w')
            (first | with_reducible exact hS6 | with_reducible exact hS5 | with_reducible exact hS5b | exact keep3d (unhide hall))
            ((first
              | (go_at_call 21
                 refine (unhide c63 _ (unhide hb).drew).mono ?_
                 rintro e w5 ⟨rfl, k5⟩
                 have hS5 := keep3 (keep3d (unhide hall)) k5
                 have hS5b := keep3 hS5 ((Below.refl w5.heap.size w5).alloc (Nat.le_refl _) (.cells #[.int .i64 v] 2))
                 have ho5 := hide (ownsRow_below (w := wr.drew) (unhide ho) k5)
                 have hz5 : w1.heap.size ≤ w5.heap.size := hS5.2.2.2.size
                 clear k5)
              | (refine step_iA w5 (by rfl) _ _ (by rfl) w1.heap.size g (4 * y + x) c _ v (by rfl) (unhide ho5) (by rfl) (by omega) hz5 ?_
                 intro g' cap' w' h5 h6 h7
                 have hS6 := keep3b hS5 h6 wl)))
          have ho2 := hide (show OwnI w' w1.heap.size g' (4 * y + x + 1) cap' (fl (blk 12 H l n dx dy) (4 * y + x + 1)) by have := h5; rw [unhide hfl] at this; exact this)
          have hb2 := hide hS6.2.2.2
          clear hS5 hS5b hS6 h5 h6 h7 hall ho5 ho hb c63
          go_wp2
          go_roundw
          case rel => exact ⟨x + 1, g', cap', by omega, by go_num, rfl, ho2, hb2⟩
          case measure => simp [intOf]; omega
        · have hxe : x = 4 := by omega
          subst hxe
          go_wp2
          go_roundw
          case rel => exact ⟨y + 1, g, c, by omega, by go_num, rfl, ho, hb⟩
          case measure => simp [intOf]; omega
    · have hye : y = 4 := by omega
      subst hye
      go_wp2
      go_ret
      have q := own_ge (unhide ho)
      exact AnI.mk (fl_len _ _) (by omega) (own_mono (unhide ho) (by omega)) ((unhide bw).trans ((unhide hb).mono (by omega)))

end Go.Proofs.Ytdppnjafkbopiaa
