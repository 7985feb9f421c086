/-
  Contract of the program's ShowBoxes: the bytes, in memory of their own; nothing that was there is written.
-/
import Derived.Test.YtfdbnlmfnhhcbaaIShow
import Derived.Test.YtfdbnlmfnhhcbaaIOk
namespace Go.Proofs.Ytfdbnlmfnhhcbaa
open Go.RowKit
set_option linter.unusedVariables false
set_option linter.unusedSimpArgs false

def sh (l : List Bx) : List Int := if ok l = true then fl l else []
theorem strOk_kinds4 (l : List Bx) : ∀ p, strOk p l = true → ∀ x ∈ l, x.k.size = 4 := by
  induction l with
  | nil => intro p _ x hx; simp at hx
  | cons y t ih =>
    intro p h x hx
    unfold strOk at h
    rw [Bool.and_eq_true] at h
    rcases List.mem_cons.1 hx with rfl | hx
    · have h1 := h.1
      unfold stepOk at h1
      simp only [Bool.and_eq_true] at h1
      exact kindOk_size h1.1.1.1.1
    · exact ih _ h.2 x hx
theorem ok_parts {l : List Bx} (h : ok l = true) : l.length ≤ 200 ∧ tot l ≤ 21600 ∧ ∀ x ∈ l, x.k.size = 4 := by
  unfold ok at h
  simp only [Bool.and_eq_true, decide_eq_true_eq] at h
  refine ⟨h.1.1, ?_, strOk_kinds4 l none h.1.2⟩
  unfold tot; omega
theorem Bxs.drop {own : Bool} {lo hi : Nat} {w : World} {b o : Nat} {A : Nat → Option Addr × Nat} {l : List Bx} (h : Bxs own lo hi w (some ⟨b, o, none⟩) A l) (k : Nat) : Bxs own lo hi w (some ⟨b, o + k * 3, none⟩) (fun j => A (k + j)) (l.drop k) := by
  intro j x hx
  rw [List.getElem?_drop] at hx
  obtain ⟨b', o', e, r⟩ := h (k + j) x hx
  injection e with e
  injection e with e1 e2 _
  subst e1 e2
  refine ⟨b, o + k * 3, rfl, ?_⟩
  rw [show o + k * 3 + j * 3 = o + (k + j) * 3 by omega]
  exact r
theorem Bxs.take {own : Bool} {lo hi : Nat} {w : World} {a : Option Addr} {A : Nat → Option Addr × Nat} {l : List Bx} (h : Bxs own lo hi w a A l) (k : Nat) : Bxs own lo hi w a A (l.take k) := by
  intro j x hx
  rw [List.getElem?_take] at hx
  split at hx
  · exact h j x hx
  · cases hx
theorem ty_ne {w : World} {B n c g' g5 : Nat} {xs : List Value} {cs : Array Value} (h : w.ownsRow B 5 1 (.slice (some ⟨g', 0, none⟩) n c) n xs) (hb : w.heap[g5]? = some (.cells cs 42)) : g5 ≠ g' := by
  rintro rfl
  rcases h.2 with ⟨h1, _⟩ | ⟨g, c, cur, h1, h2, h3, _⟩
  · cases h1
  · injection h1 with h1
    injection h1 with h1
    injection h1 with h1
    subst h1
    rw [hb] at h3
    injection h3 with h3
    injection h3 with h3 h4
    cases h4

set_option maxRecDepth 100000 in
set_option maxHeartbeats 1600000 in
theorem ishow_any (a : Option Addr) (cap : Nat) (A : Nat → Option Addr × Nat) (l : List Bx) (w : World) (hl : l.length ≤ 1048576) (hs : Small 1048576 l) (hlc : l.length ≤ cap) (hc2 : cap ≤ 1048576) (hA : ∀ i, i < l.length → ∃ y, (A i).1 = some y) (hr : Bxs false 0 w.heap.size w a A l) :
    Calls Try.prog 10 #[.slice a l.length cap] w fun e w' => ∃ g c, e = .returned (.slice (some ⟨g, 0, none⟩) (sh l).length c) ∧ w'.ownsRow w.heap.size 5 1 (.slice (some ⟨g, 0, none⟩) (sh l).length c) (sh l).length ((sh l).map u8) ∧ Below w.heap.size w w' := by
  have hr' := hide hr
  have hs' := hide hs
  have hA' := hide hA
  clear hr hs hA
  cases hok : ok l
  · have e0 : sh l = [] := by unfold sh; rw [hok]; rfl
    rw [e0]
    clear e0
    go_enter Try.func10, Try.ntmps10
    go_wp2_with fail
    refine (iok_any a cap A l false _ hl (unhide hs') (unhide hr') hok).mono ?_
    rintro e w1 ⟨rfl, b1⟩
    have hol := World.ownsRow_lit (base := w.heap.size) (e := 5) (size := 1) w1 #[] 0 b1.size (by unfold maxLen; omega) rfl
    have hol' := hide hol
    have b1' := hide b1
    clear hol b1
    go_wp2
    go_ret
    exact ⟨_, _, rfl, unhide hol', (unhide b1').alloc (unhide b1').size _⟩
  · obtain ⟨hl2, ht, hk4⟩ := ok_parts hok
    have e0 : sh l = fl l := by unfold sh; rw [if_pos hok]
    rw [e0]
    have hlen := fl_len l hk4
    rw [hlen]
    have hlen' := hide hlen
    have hk4' := hide hk4
    clear e0 hlen hk4
    obtain ⟨T, hT⟩ : ∃ T, tot l = T := ⟨_, rfl⟩
    rw [hT] at ht ⊢
    have hT' := hide hT
    obtain ⟨i0, hi, hz0, hz1, hz2⟩ := info_parts info5
    go_enter Try.func10, Try.ntmps10
    go_wp2_with fail
    refine (iok_any a cap A l true _ hl (unhide hs') (unhide hr') hok).mono ?_
    rintro e w1 ⟨rfl, b1⟩
    have hr1 := hide (((unhide hr').below b1 (Nat.le_refl _)).mono (Nat.le_refl _) b1.size)
    have b1' := hide b1
    have z1 := b1.size
    clear b1 hok
    go_wp2_with fail
    refine (sb_any a cap A l _ (by rw [hT]; omega) (unhide hr1)).mono ?_
    rintro e w2 ⟨rfl, b2⟩
    rw [hT]
    have B2 := hide ((unhide b1').trans (b2.mono z1))
    have z2 := b2.size
    clear b2 b1' hr1 hT
    go_wp2_with (refine wpList_make_own _ rfl _ _ 22 rfl w.heap.size 5 i0 (.int .u8 0) 1 Try.underlying22 hi hz0 hz1 .i64 .i64 _ T rfl rfl rfl ?b2 ?b3 ?b4 ?_)
    case b2 => rw [hz2]; omega
    case b3 => unfold maxLen; omega
    case b4 => omega
    intro w3 hown3 hg3
    have b3 := hide ((unhide B2).grown hg3 (by omega) (fun k hk => by cases hk))
    have hown3' := hide hown3
    clear hown3 hg3 hz0 hz1 hz2 hi
    go_wp2
    go_loopw [3, 15] (fun s t wr => ∃ (k n c g : Nat) (xs : List Value), k ≤ l.length ∧ t = .int .i64 k ∧ s = .slice (some ⟨g, 0, none⟩) n c ∧ n ≤ 21600 ∧ Hid (wr.ownsRow w.heap.size 5 1 (.slice (some ⟨g, 0, none⟩) n c) n xs) ∧ Hid (xs ++ (fl (l.drop k)).map u8 = (fl l).map u8) ∧ Hid (Below w.heap.size w wr)) (fun _ t _ => l.length - (intOf t).toNat)
    case atStart => exact ⟨0, 0, T, w2.heap.size, [], by omega, rfl, rfl, by omega, hown3', hide rfl, b3⟩
    case round =>
      obtain ⟨k, n, c, g, xs, hk, rfl, rfl, hn, hown, hxs, hb⟩ := hrel
      by_cases hlt : k < l.length
      · clear hown3' b3 B2
        obtain ⟨x, hx⟩ : ∃ x, l[k]? = some x := ⟨l[k], List.getElem?_eq_getElem hlt⟩
        obtain ⟨y, hy⟩ := unhide hA' k hlt
        obtain ⟨b, o, rfl, h1, h2, c0, c1, c2, hrow, k1, d0, d1, q1, q2, _⟩ := unhide hr' k x hx
        rw [hy] at c2 hrow
        obtain ⟨cz, hcz⟩ : ∃ cz, (A k).2 = cz := ⟨_, rfl⟩
        rw [hcz] at c2
        have hx4 := hide (unhide hk4' x (List.mem_of_getElem? hx))
        have hgl : g < wr.heap.size := ((unhide hown).lt g rfl).2
        have zb := (unhide hb).size
        have w0 : wr.cell? ⟨b, o + k * 3, none⟩ = some (.string x.k) := by rw [(bcell (unhide hb)).1 _ _ h2]; exact c0
        have w1' : wr.cell? ⟨b, o + k * 3 + 1, none⟩ = some (.int .i64 x.d) := by rw [(bcell (unhide hb)).1 _ _ h2]; exact c1
        have w2' : wr.cell? ⟨b, o + k * 3 + 2, none⟩ = some (.slice (some y) x.z.length cz) := by rw [(bcell (unhide hb)).1 _ _ h2]; exact c2
        have hx' := hide hx
        have hrow' := hide hrow
        have hcz' := hide hcz
        have hy' := hide hy
        have hE1 : k + 1 ≤ eo l k := by rw [eo_sub hx]; omega
        have hE2 : eo l k ≤ l.length := eo_le hlt
        have hbA := hide (((unhide hb).alloc zb (.cells #[.string x.k, .int .i64 x.d, .slice (some y) x.z.length cz] 42)))
        have hrA := hide (((unhide hr').below (unhide hbA) (Nat.le_refl _)).mono (Nat.le_refl _) (unhide hbA).size)
        have hE := hide (show eo l k = eo l k from rfl)
        clear hx hrow hcz hy c0 c1 c2 k1 q1 q2 d0 d1
        go_wp2_with fail
        refine (eo_any _ cap A l k _ hl hlt (unhide hrA)).mono ?_
        rintro e w4 ⟨rfl, nq, rfl⟩
        obtain ⟨E, hE⟩ : ∃ E, eo l k = E := ⟨_, rfl⟩
        rw [hE] at hE1 hE2 ⊢
        have hE' := hide hE
        clear hE
        go_wp2_with fail
        have hsl : ((l.take E).drop k).length = E - k := by simp; omega
        have htl : tot ((l.take E).drop k) ≤ 1000000 := by
          have h1 := tot_append ((l.take E).take k) ((l.take E).drop k)
          rw [List.take_append_drop] at h1
          have h2 := tot_take_le l E
          rw [unhide hT'] at h2
          omega
        have hcall := sb_any (some ⟨b, o + k * 3, none⟩) (cap - k) (fun j => A (k + j)) ((l.take E).drop k) ((wr.alloc (.cells #[.string x.k, .int .i64 x.d, .slice (some y) x.z.length cz] 42)).drewN nq) htl (((unhide hrA).take E).drop k)
        rw [hsl] at hcall
        refine hcall.mono ?_
        rintro e w5 ⟨rfl, b5⟩
        obtain ⟨N, hN⟩ : ∃ N, tot ((l.take E).drop k) = N := ⟨_, rfl⟩
        rw [hN] at htl ⊢
        have hN' := hide hN
        have zA : ((wr.alloc (.cells #[.string x.k, .int .i64 x.d, .slice (some y) x.z.length cz] 42)).drewN nq).heap.size = wr.heap.size + 1 := by show (wr.alloc _).heap.size = _; simp
        have z5 := b5.size
        rw [zA] at z5 b5
        have hblk5 : w5.heap[wr.heap.size]? = some (.cells #[.string x.k, .int .i64 x.d, .slice (some y) x.z.length cz] 42) := (b5.block _ (by omega)).trans (heap_alloc_new wr _)
        have hown5 := hide (own_kept (unhide hown) (fun j hj => by
          have e : g = j := Option.some.inj hj
          subst e
          exact (b5.block _ (by omega)).trans (Below.heap_alloc wr _ _ hgl)))
        have B5 := hide ((below_drewN (unhide hbA) nq).trans (b5.mono (by omega)))
        have hblk5' := hide hblk5
        clear hN hcall b5 zA hblk5 w0 w1' w2' hrA hbA
        go_wp2_with fail
        refine (as_any w.heap.size g n c N xs _ (unhide hown5) (by omega) htl (unhide B5).size).mono ?_
        rintro e w6 ⟨g6, c6, rfl, own6, o6⟩
        have z6 := o6.size
        have hblk6 : w6.heap[wr.heap.size]? = some (.cells #[.string x.k, .int .i64 x.d, .slice (some y) x.z.length cz] 42) := (o6.2.2.2.2 _ (by omega) (by omega)).trans (unhide hblk5')
        have hne6 := ty_ne own6 hblk6
        have a0 : w6.cell? ⟨wr.heap.size, 0, none⟩ = some (.string x.k) := by rw [cell_of_row _ _ _ _ _ _ hblk6]; rfl
        have B6 := hide ((unhide B5).trans (o6.below (B := w.heap.size) (unhide B5).size (fun j hj hS => by have := ((unhide hown).lt g rfl).1; omega)))
        have own6' := hide own6
        have hblk6' := hide hblk6
        clear own6 o6 hblk6 hown5 hblk5' B5
        go_wp2_with (at_builtin; refine wpList_str _ rfl _ _ rfl w.heap.size (n + 4) (.slice (some ⟨g6, 0, none⟩) (n + 4) c6) _ rfl (unhide own6') x.k rfl (by have := unhide hx4; omega) (unhide B6).size ?_)
        intro v7 w7 own7 hg7 hi7
        obtain ⟨g7, c7, rfl⟩ := own_form own7 (by simpa using hi7)
        have z7 := hg7.size
        have hblk7 : w7.heap[wr.heap.size]? = some (.cells #[.string x.k, .int .i64 x.d, .slice (some y) x.z.length cz] 42) := (hg7.block _ (by omega) (fun e => hne6 (Option.some.inj e))).trans (unhide hblk6')
        have a2 : w7.cell? ⟨wr.heap.size, 2, none⟩ = some (.slice (some y) x.z.length cz) := by rw [cell_of_row _ _ _ _ _ _ hblk7]; rfl
        have B7 := hide ((unhide B6).grown hg7 (unhide B6).size (fun j hj => by have e : g6 = j := Option.some.inj hj; subst e; exact ((unhide own6').lt g6 rfl).1))
        have own7' := hide own7
        have hrow7 := hide ((unhide hrow').below (unhide B7) (Nat.le_refl _))
        have hzl : x.z.length ≤ 1048576 := by have := unhide hs' x (List.mem_of_getElem? (unhide hx')); omega
        clear own7 hg7 hi7 hblk7 hblk6' a0 B6 own6'
        go_wp2_with (at_builtin; refine wpList_bytes _ rfl _ _ rfl w.heap.size (n + 4 + x.k.size) w.heap.size (.slice (some ⟨g7, 0, none⟩) (n + 4 + x.k.size) c7) _ rfl (unhide own7') y x.z.length cz x.z rfl rfl (unhide hrow7) (by have := unhide hx4; omega) (unhide B7).size ?_)
        intro v8 w8 own8 hg8 hi8
        obtain ⟨g8, c8, rfl⟩ := own_form own8 (by simpa using hi8)
        have B8 := hide ((unhide B7).grown hg8 (unhide B7).size (fun j hj => by have e : g7 = j := Option.some.inj hj; subst e; exact ((unhide own7').lt g7 rfl).1))
        have own8' := hide own8
        clear own8 hg8 hi8 a2 B7 own7' hrow7
        go_wp2
        go_roundw
        case rel =>
          have hx2 := unhide hx'
          have heq : (xs ++ ((be4 N).map u8 ++ (Lib.strCells x.k ++ x.z.map u8))) ++ (fl (l.drop (k + 1))).map u8 = (fl l).map u8 := by
            rw [← unhide hxs, fl_next hx2, unhide hE', unhide hN', ← kb_cells]
            simp only [List.map_append, List.append_assoc]
          have hlen2 := congrArg List.length heq
          rw [List.length_append, (unhide own8').1, List.length_map, List.length_map, unhide hlen', unhide hT'] at hlen2
          exact ⟨k + 1, n + 4 + x.k.size + x.z.length, c8, g8, _, by omega, by go_num, rfl, by omega, own8', hide heq, B8⟩
        case measure => simp [intOf]; omega
      · have hke : k = l.length := by omega
        have heq := unhide hxs
        rw [hke, List.drop_length] at heq
        have heq2 : xs = (fl l).map u8 := by simpa [fl] using heq
        have hnT : n = T := by
          have h1 := (unhide hown).1
          rw [heq2, List.length_map, unhide hlen', unhide hT'] at h1
          omega
        subst hnT
        have heq' := hide heq2
        clear heq heq2 hown3' b3 B2
        go_wp2
        go_ret
        refine ⟨g, c, rfl, ?_, unhide hb⟩
        rw [← unhide heq']; exact unhide hown
end Go.Proofs.Ytfdbnlmfnhhcbaa
