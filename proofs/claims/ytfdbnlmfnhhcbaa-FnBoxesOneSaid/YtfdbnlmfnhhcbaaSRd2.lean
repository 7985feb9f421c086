/-
  One step by depth of the model's reader of boxes.
-/
import Derived.Test.YtfdbnlmfnhhcbaaSRd
import Derived.Test.YtfdbnlmfnhhcbaaApp
import Derived.Deep.RegionLaw
import Derived.Deep.CutRange
namespace Go.Proofs.Ytfdbnlmfnhhcbaa
open Go.RowKit
set_option linter.unusedVariables false
set_option linter.unusedSimpArgs false
theorem SSt.fault {w : World} {R B : Nat} {src : Value} {s : RS} {x y : Int} (h : SSt w R B src s x y) (c p : Int) : SSt ((w.setCell ⟨R, 3, none⟩ (.int .i64 c)).setCell ⟨R, 4, none⟩ (.int .i64 p)) R B src s c p := by
  obtain ⟨v, L, c0, c1, c2, c3, c4, hf, hown, hL, hR, hB, h2, n0, n1, hoff⟩ := h
  refine ⟨v, L, ?_, ?_, ?_, ?_, ?_, fun i => by rw [World.frozen?_setCell, World.frozen?_setCell]; exact hf i, (hown.setOff hoff 3 _).setOff hoff 4 _, hL, by simpa using hR, by simpa using hB, h2, n0, n1, hoff⟩
  · rw [World.cell?_setCell_other _ _ _ _ (ne_addr (by decide)), World.cell?_setCell_other _ _ _ _ (ne_addr (by decide))]; exact c0
  · rw [World.cell?_setCell_other _ _ _ _ (ne_addr (by decide)), World.cell?_setCell_other _ _ _ _ (ne_addr (by decide))]; exact c1
  · rw [World.cell?_setCell_other _ _ _ _ (ne_addr (by decide)), World.cell?_setCell_other _ _ _ _ (ne_addr (by decide))]; exact c2
  · rw [World.cell?_setCell_other _ _ _ _ (ne_addr (by decide))]; exact World.cell?_setCell_same _ _ _ c3
  · exact World.cell?_setCell_same _ _ _ (show _ = some (.int .i64 y) by rw [World.cell?_setCell_other _ _ _ _ (ne_addr (by decide))]; exact c4)
theorem SSt.drewN {w : World} {R B : Nat} {src : Value} {s : RS} {x y : Int} (h : SSt w R B src s x y) (n : Nat) : SSt (w.drewN n) R B src s x y := h
theorem Fr.drewN {R B : Nat} {a w : World} (h : Fr R B a w) (n : Nat) : Fr R B a (w.drewN n) := h
theorem rd_code (n : Nat) : ∀ (left : List Int) (dep pos : Int) (s : RS) (f : Int × Int), (rdAll n left dep pos s).2 = some f → f.1 ≠ 0 := by
  induction n with
  | zero => intro left dep pos s f h; simp [rdAll] at h
  | succ n ih =>
    intro left dep pos s f h
    unfold rdAll at h
    split at h
    · cases h
    · split at h
      · rename_i hf
        injection h with h
        rw [← h]; exact hf
      · split at h
        · split at h
          · rename_i s1 f1 he
            have := ih (inner left) (dep + 1) (pos + 8) ⟨s.l ++ [⟨kindOf left, dep, []⟩], s.n⟩ f1 (by rw [he])
            injection h with h
            rw [← h]; exact this
          · exact ih _ _ _ _ f h
        · exact ih _ _ _ _ f h
/-- the reader's block behind an append to what it owns -/
theorem SSt.app {w w3 : World} {R B : Nat} {src v v' : Value} {L L' : List (Bx × (Option Addr × Nat))} {s : RS} {n2 : Int} {l2 : List Bx} (c0 : w.cell? ⟨R, 0, none⟩ = some src) (c1 : w.cell? ⟨R, 1, none⟩ = some v) (c2 : w.cell? ⟨R, 2, none⟩ = some (.int .i64 n2)) (c3 : w.cell? ⟨R, 3, none⟩ = some (.int .i64 0)) (c4 : w.cell? ⟨R, 4, none⟩ = some (.int .i64 0))
    (hfz : ∀ i, w.frozen? ⟨R, i, none⟩ = false) (hR : R < w.heap.size) (hB : B ≤ w.heap.size) (hoff : Off R v L) (hgrow : w.grownBy w3 v.ownBlock) (hown' : OwnL w3 B v' L') (hoff' : Off R v' L') (hL : L'.map (·.1) = l2) (h2 : l2.length ≤ 200) (n0 : 0 ≤ n2) (n1 : n2 ≤ 20000) :
    SSt (w3.setCell ⟨R, 1, none⟩ v') R B src ⟨l2, n2⟩ 0 0 := by
  have hb : w3.heap[R]? = w.heap[R]? := hgrow.block R hR (Ne.symm hoff.1)
  have C := fun i => World.cell?_of_block (a := ⟨R, i, none⟩) hb
  have F := fun i => World.frozen?_of_block (a := ⟨R, i, none⟩) hb
  have hsz := hgrow.size
  refine ⟨v', L', ?_, World.cell?_setCell_same _ _ _ ((C 1).trans c1), ?_, ?_, ?_, fun i => by rw [World.frozen?_setCell]; exact (F i).trans (hfz i), hown'.setOff hoff' 1 _, hL, by simp; omega, by simp; omega, h2, n0, n1, hoff'⟩
  · rw [World.cell?_setCell_other _ _ _ _ (ne_addr (by decide))]; exact (C 0).trans c0
  · rw [World.cell?_setCell_other _ _ _ _ (ne_addr (by decide))]; exact (C 2).trans c2
  · rw [World.cell?_setCell_other _ _ _ _ (ne_addr (by decide))]; exact (C 3).trans c3
  · rw [World.cell?_setCell_other _ _ _ _ (ne_addr (by decide))]; exact (C 4).trans c4
theorem own_ne {w : World} {B g : Nat} {v : Value} {L : List (Bx × (Option Addr × Nat))} (h : OwnL w B v L) (hg : w.heap.size ≤ g) : v.ownBlock ≠ some g := by
  intro e
  have := (h.1.lt g e).2
  omega
theorem good_of_row {w w' : World} {B B0 g cp m : Nat} {v : Value} {k : ByteArray} {d : Int} {zs : List Int} (hown : w.ownsRow B0 5 1 (.slice (some ⟨g, 0, none⟩) (0 + m) cp) (0 + m) ([] ++ zs.map u8)) (hz : ∀ z ∈ zs, 0 ≤ z ∧ z ≤ 255) (hl : zs.length = m) (hks : k.size ≤ maxLen) (hd0 : -9223372036854775808 ≤ d) (hd1 : d ≤ 9223372036854775807)
    (hmc : 0 + m ≤ cp) (hcm : cp ≤ maxLen) (hB : B ≤ g) (hne : v.ownBlock ≠ some g) (hb : Below w.heap.size w w') : GoodP w' B v (⟨k, d, zs⟩, (some ⟨g, 0, none⟩, cp)) := by
  rw [List.nil_append] at hown
  have hg : g < w.heap.size := (hown.lt g rfl).2
  have hr := row_of_own hown hz
  refine ⟨(hr.below hb (by omega)).mono hB (by have := hb.size; omega), hks, hd0, hd1, by show zs.length ≤ cp; omega, hcm, ?_⟩
  intro y hy
  injection hy with hy
  subst hy
  exact ⟨by have := hb.size; show g < _; omega, hne⟩
theorem leaf_end {W w5 w3 : World} {R B : Nat} {src v v3 : Value} {L : List (Bx × (Option Addr × Nat))} {s : RS} {n2 : Int} {p : Bx × (Option Addr × Nat)} {O : Obj} (d0 : W.cell? ⟨R, 0, none⟩ = some src) (d1 : W.cell? ⟨R, 1, none⟩ = some v) (d2 : W.cell? ⟨R, 2, none⟩ = some (.int .i64 n2)) (d3 : W.cell? ⟨R, 3, none⟩ = some (.int .i64 0)) (d4 : W.cell? ⟨R, 4, none⟩ = some (.int .i64 0))
    (dfz : ∀ i, W.frozen? ⟨R, i, none⟩ = false) (hRW : R < W.heap.size) (hBW : B ≤ W.heap.size) (hb5 : Below W.heap.size W w5) (hownW : OwnL W B v L) (hoff : Off R v L) (hgrow : (w5.alloc O).grownBy w3 v.ownBlock) (hown3 : OwnL w3 B v3 (L ++ [p])) (hoff3 : Off R v3 (L ++ [p])) (hL : L.map (·.1) = s.l) (h2 : s.l.length < 200) (n0 : 0 ≤ n2) (n1 : n2 ≤ 20000) :
    SSt (w3.setCell ⟨R, 1, none⟩ v3) R B src ⟨s.l ++ [p.1], n2⟩ 0 0 ∧ Fr R B W (w3.setCell ⟨R, 1, none⟩ v3) := by
  have hsz := hb5.size
  have hblk : (w5.alloc O).heap[R]? = W.heap[R]? := (Below.heap_alloc _ _ _ (by omega)).trans (hb5.block R hRW)
  have C := fun i => World.cell?_of_block (a := ⟨R, i, none⟩) hblk
  have F := fun i => World.frozen?_of_block (a := ⟨R, i, none⟩) hblk
  refine ⟨SSt.app (s := s) (w := w5.alloc O) ((C 0).trans d0) ((C 1).trans d1) ((C 2).trans d2) ((C 3).trans d3) ((C 4).trans d4) (fun i => (F i).trans (dfz i)) (by simp; omega) (by simp; omega) hoff hgrow hown3 hoff3 (by rw [List.map_append, hL]; rfl) (by simp; omega) n0 n1, ?_⟩
  have h1 : Fr R B W w3 := Fr.of (((hb5.mono hBW).alloc (by omega) O).grown hgrow (by simp; omega) (fun g hg => (hownW.1.lt g hg).1))
  exact h1.set 1 _
theorem form5 {w : World} {B n m e : Nat} {v' : Value} {xs : List Value} {ad : Addr} {x y : Nat} {p : Prop} (h : w.ownsRow B e m v' n xs) (hiff : v' = .slice none 0 0 ↔ Value.slice (some ad) x y = .slice none 0 0 ∧ p) :
    ∃ g c, v' = .slice (some ⟨g, 0, none⟩) n c ∧ B ≤ g ∧ g < w.heap.size ∧ n ≤ c ∧ c ≤ maxLen := by
  rcases h.2 with ⟨h1, _⟩ | ⟨g, c, cur, h1, h2, h3, h4, h5, _⟩
  · have := (hiff.1 h1).1
    cases this
  · exact ⟨g, c, h1, h2, (h.lt g (by rw [h1]; rfl)).2, h4, h5⟩
set_option maxRecDepth 100000 in
set_option maxHeartbeats 6400000 in
theorem sp_step (dep : Int) (hd0 : 0 ≤ dep) (hd1 : dep ≤ 9) (hih : dep ≤ 8 → SpC (dep + 1)) : SpC dep := by
  intro n f t zs a cap Hh R B s w hft htl hl40 hlc hc2 hn hHR hHB hr hst
  have hih' := hide hih
  have hr' := hide hr
  have hst' := hide hst
  have hn' := hide hn
  clear hih hr hst hn
  generalize hres : rdAll n (seg zs f t) dep f s = res
  have hres' := hide hres
  clear hres
  have hRow0 := hr'
  clear hr'
  go_enter Try.func16, Try.ntmps16
  go_wp2
  go_loopw [8] (fun t8 wr => ∃ (k n' : Nat) (s' : RS) (c p : Int), t8 = .int .i64 k ∧ f ≤ k ∧ k ≤ t ∧ Hid (SSt wr R B (.slice a zs.length cap) s' c p ∧ ((c = 0 ∧ p = 0 ∧ t - k < n' ∧ rdAll n' (seg zs k t) dep k s' = res) ∨ (c ≠ 0 ∧ res = (s', some (c, p))))) ∧ Fr R B w wr) (fun t8 _ => t - (intOf t8).toNat)
  case atStart => exact ⟨f, n, s, 0, 0, rfl, Nat.le_refl _, hft, hide ⟨unhide hst', .inl ⟨rfl, rfl, unhide hn', unhide hres'⟩⟩, Fr.refl _ _ _⟩
  case round =>
    clear hst' hn' hres'
    obtain ⟨k, n, s, c, p, rfl, hfk, hkt, hall, hFr⟩ := hrel
    obtain ⟨hst, hcase⟩ := unhide hall
    have hFr' := hide hFr
    have hst' := hide hst
    clear hall hFr
    obtain ⟨v, L, c0, c1, c2, c3, c4, hfz, hown, hL, hR, hB, h2, n0, n1, hoff⟩ := hst
    have hRow : Row false 0 Hh wr a zs := (unhide hRow0).fr (unhide hFr') hHR hHB
    rcases hcase with ⟨rfl, rfl, hn, hres⟩ | ⟨hcne, hres⟩
    · by_cases hlt : k < t
      · obtain ⟨n, rfl⟩ : ∃ n', n = n' + 1 := ⟨n - 1, by omega⟩
        have hpos : 0 < (seg zs k t).length := by rw [seg_len hkt htl]; omega
        have hsl := seg_len hkt htl
        have hsl' := hide hsl
        have hres' := hide hres
        have hpos' := hide hpos
        have hltb : decide ((k : Int) < (t : Int)) = true := decide_eq_true (by omega)
        have f3 := hfz 3
        have f4 := hfz 4
        have hsig : Hid (∀ (nq : Nat) (c : Int), c ≠ 0 → headFault (seg zs k t) dep s = c → SSt (((wr.drewN nq).setCell ⟨R, 3, none⟩ (.int .i64 c)).setCell ⟨R, 4, none⟩ (.int .i64 k)) R B (.slice a zs.length cap) res.1 (res.2.getD (0, 0)).1 (res.2.getD (0, 0)).2) := hide (by
          intro nq c hc hhf
          have := rd_fault (n := n) (dep := dep) (pos := k) (s := s) hpos (by rw [hhf]; exact hc)
          rw [hres, hhf] at this
          rw [this]
          exact ((unhide hst').drewN nq).fault c k)
        by_cases h8 : (t : Int) - k < 8
        · have hS := unhide hsig 0 2 (by decide) (hf2 (by rw [hsl]; omega))
          have hS' := hide hS
          clear hS hpos hsl hres hn hown hL hoff hRow
          go_wp2
          exact bodyPost_ret (v := .tuple #[]) (by simp [results, Try.results16, go_sem]) rfl ⟨rfl, unhide hS', ((unhide hFr').set 3 _).set 4 _⟩
        · have hk8 : k + 8 ≤ t := by omega
          obtain ⟨z0, e0⟩ : ∃ z, zs[k]? = some z := ⟨zs[k]'(by omega), List.getElem?_eq_getElem (by omega)⟩
          obtain ⟨z1, e1⟩ : ∃ z, zs[k + 1]? = some z := ⟨zs[k + 1]'(by omega), List.getElem?_eq_getElem (by omega)⟩
          obtain ⟨z2, e2⟩ : ∃ z, zs[k + 2]? = some z := ⟨zs[k + 2]'(by omega), List.getElem?_eq_getElem (by omega)⟩
          obtain ⟨z3, e3⟩ : ∃ z, zs[k + 3]? = some z := ⟨zs[k + 3]'(by omega), List.getElem?_eq_getElem (by omega)⟩
          obtain ⟨b, o, rfl, _, hbH, q0, _⟩ := hRow k z0 e0
          have q1 := (row_at hRow e1).1
          have q2 := (row_at hRow e2).1
          have q3 := (row_at hRow e3).1
          have hbd := hRow.bd
          have y0 := hbd z0 (List.mem_of_getElem? e0)
          have y1 := hbd z1 (List.mem_of_getElem? e1)
          have y2 := hbd z2 (List.mem_of_getElem? e2)
          have y3 := hbd z3 (List.mem_of_getElem? e3)
          obtain ⟨y00, y01⟩ := y0
          obtain ⟨y10, y11⟩ := y1
          obtain ⟨y20, y21⟩ := y2
          obtain ⟨y30, y31⟩ := y3
          have hszv := siz_seg hk8 htl e0 e1 e2 e3
          have hszb := siz_bd (seg_bd (f := k) (t := t) hRow.bd)
          obtain ⟨N, hN⟩ : ∃ N, z0 * 16777216 + z1 * 65536 + z2 * 256 + z3 = N := ⟨_, rfl⟩
          have hszN : siz (seg zs k t) = N := by rw [hszv]; exact hN
          rw [hszN] at hszb
          obtain ⟨hN0, hN1⟩ := hszb
          have hszN' := hide hszN
          have hlen4 : ((zs.drop (k + 4)).take 4).length = 4 := by simp; omega
          have hcv0 := fun nq => run_convert_bytes_arg (wr.drewN nq) 22 5 Try.underlying22 Try.underlying5 b (o + (k + 4)) 4 (cap - (k + 4)) ((zs.drop (k + 4)).take 4) hlen4 (fun i hi' => by
            have e : ((zs.drop (k + 4)).take 4).getD i 0 = zs[k + 4 + i]'(by omega) := by
              rw [List.getD_eq_getElem?_getD, List.getElem?_take, if_pos hi', List.getElem?_drop, List.getElem?_eq_getElem (by omega)]; rfl
            rw [e, show o + (k + 4) + i = o + (k + 4 + i) by omega]
            exact (row_at hRow (List.getElem?_eq_getElem (by omega))).1) 9 Try.underlying9
          have hcv : ∀ nq, (convert 22 9 (.slice (some ⟨b, o + (k + 4), none⟩) 4 (cap - (k + 4)))).run Try.prog (wr.drewN nq) = .ok (.string (kindOf (seg zs k t))) (wr.drewN nq) := fun nq => by rw [kind_seg hk8 htl]; exact hcv0 nq
          have hks : (kindOf (seg zs k t)).size ≤ maxLen := by have := kindOf_size (seg zs k t); unfold maxLen; omega
          have hLl : L.length = s.l.length := by rw [← hL]; simp
          obtain ⟨av, capv, hv, _⟩ := hown.bxs
          rw [hLl] at hv
          subst hv
          have hown' := hide hown
          have hL' := hide hL
          have hoff' := hide hoff
          have hLl' := hide hLl
          have hRow' := hide hRow
          have hn' := hide hn
          clear e0 e1 e2 e3 hlen4 hcv0 hsl hpos hres hn hL hoff hown hszv hszN hRow hLl
          go_wp2
          go_quiet (fail)
          clear q0 q1 q2 q3 y00 y01 y10 y11 y20 y21 y30 y31 hN
          by_cases hs : N < 8 ∨ (t : Int) - k < N
          · have hS := unhide hsig nq 3 (by decide) (hf3 (by rw [unhide hsl']; omega) (by rw [unhide hsl', unhide hszN']; omega))
            have hS' := hide hS
            clear hS
            by_cases hs8 : N < 8
            · clear hs
              go_wp2
              exact bodyPost_ret (v := .tuple #[]) (by simp [results, Try.results16, go_sem]) rfl ⟨rfl, unhide hS', (((unhide hFr').drewN _).set 3 _).set 4 _⟩
            · have hs8b : decide (N < 8) = false := decide_eq_false hs8
              have hs9 : (t : Int) - k < N := by omega
              clear hs hs8
              go_wp2
              exact bodyPost_ret (v := .tuple #[]) (by simp [results, Try.results16, go_sem]) rfl ⟨rfl, unhide hS', (((unhide hFr').drewN _).set 3 _).set 4 _⟩
          · obtain ⟨m, hm⟩ : ∃ m : Nat, N = (m : Int) + 8 := ⟨(N - 8).toNat, by omega⟩
            subst hm
            have hszm : siz (seg zs k t) = ((m + 8 : Nat) : Int) := by rw [unhide hszN']; simp
            have hmt : k + (m + 8) ≤ t := by omega
            have hs8b : decide ((m : Int) + 8 < 8) = false := decide_eq_false (by omega)
            have hs9b : decide ((t : Int) - k < (m : Int) + 8) = false := decide_eq_false (by omega)
            have hm40 : m ≤ 40000 := by omega
            have g0 : 8 ≤ (seg zs k t).length := by rw [unhide hsl']; omega
            have g1 : 8 ≤ siz (seg zs k t) := by rw [hszm]; omega
            have g2 : siz (seg zs k t) ≤ (seg zs k t).length := by rw [hszm, unhide hsl']; omega
            have g0' := hide g0
            have g1' := hide g1
            have g2' := hide g2
            have hszm' := hide hszm
            clear hs g0 g1 g2 hszm hN0 hN1
            cases hK : kindOk (kindOf (seg zs k t))
            · have hS := unhide hsig nq 4 (by decide) (hf4 (unhide g0') (unhide g1') (unhide g2') hK)
              have hS' := hide hS
              clear hS
              go_wp2_with fail
              refine (skind_any (kindOf (seg zs k t)) false _ hks hK).mono ?_
              rintro e w1 ⟨rfl, rfl⟩
              go_wp2
              exact bodyPost_ret (v := .tuple #[]) (by simp [results, Try.results16, go_sem]) rfl ⟨rfl, unhide hS', (((unhide hFr').drewN _).set 3 _).set 4 _⟩
            · have hksz : 0 < (kindOf (seg zs k t)).size := by rw [kindOk_size hK]; omega
              by_cases hdp : 8 < dep
              · have hS := unhide hsig nq 5 (by decide) (hf5 (unhide g0') (unhide g1') (unhide g2') hK hdp)
                have hS' := hide hS
                clear hS
                go_wp2_with fail
                refine (skind_any (kindOf (seg zs k t)) true _ hks hK).mono ?_
                rintro e w1 ⟨rfl, rfl⟩
                go_wp2
                exact bodyPost_ret (v := .tuple #[]) (by simp [results, Try.results16, go_sem]) rfl ⟨rfl, unhide hS', (((unhide hFr').drewN _).set 3 _).set 4 _⟩
              · have hdpb : decide (8 < dep) = false := decide_eq_false hdp
                by_cases h200 : s.l.length = 200
                · have hS := unhide hsig nq 6 (by decide) (hf6 (unhide g0') (unhide g1') (unhide g2') hK (by omega) (.inl h200))
                  have hS' := hide hS
                  have h2b : (((200 : Nat) : Int) == 200) = true := rfl
                  rw [h200] at c1
                  clear hS
                  go_wp2_with fail
                  refine (skind_any (kindOf (seg zs k t)) true _ hks hK).mono ?_
                  rintro e w1 ⟨rfl, rfl⟩
                  go_wp2
                  exact bodyPost_ret (v := .tuple #[]) (by simp [results, Try.results16, go_sem]) rfl ⟨rfl, unhide hS', (((unhide hFr').drewN _).set 3 _).set 4 _⟩
                · have h2b : ((s.l.length : Int) == 200) = false := by rw [beq_eq_false_iff_ne]; omega
                  cases hH : holds (kindOf (seg zs k t))
                  · by_cases hm2 : 20000 < s.n + ((m : Int) + 8) - 8
                    · have hS := unhide hsig nq 6 (by decide) (hf6 (unhide g0') (unhide g1') (unhide g2') hK (by omega) (.inr ⟨hH, by rw [unhide hszm']; omega⟩))
                      have hS' := hide hS
                      have hm2b : decide (20000 < s.n + ((m : Int) + 8) - 8) = true := decide_eq_true hm2
                      clear hS
                      go_wp2_with fail
                      refine (skind_any (kindOf (seg zs k t)) true _ hks hK).mono ?_
                      rintro e w1 ⟨rfl, rfl⟩
                      go_wp2_with fail
                      refine (holds_any (kindOf (seg zs k t)) false _ hksz hks hH).mono ?_
                      rintro e w1 ⟨rfl, rfl⟩
                      go_wp2
                      exact bodyPost_ret (v := .tuple #[]) (by simp [results, Try.results16, go_sem]) rfl ⟨rfl, unhide hS', (((unhide hFr').drewN _).set 3 _).set 4 _⟩
                    · have hm2b : decide (20000 < s.n + ((m : Int) + 8) - 8) = false := decide_eq_false hm2
                      have hf0' := hide (hf0 (dep := dep) (s := s) (unhide g0') (unhide g1') (unhide g2') hK (by omega) h200 (.inr (by rw [unhide hszm']; omega)))
                      go_wp2_with fail
                      refine (skind_any (kindOf (seg zs k t)) true _ hks hK).mono ?_
                      rintro e w1 ⟨rfl, rfl⟩
                      go_wp2_with fail
                      refine (holds_any (kindOf (seg zs k t)) false _ hksz hks hH).mono ?_
                      rintro e w1 ⟨rfl, rfl⟩
                      go_wp2_with fail
                      refine (holds_any (kindOf (seg zs k t)) false _ hksz hks hH).mono ?_
                      rintro e w1 ⟨rfl, rfl⟩
                      have hw1 : IntKind.i64.wrap ((k : Int) + ((m : Int) + 8)) = (k : Int) + ((m : Int) + 8) := by rw [IntKind.wrap_i64]; omega
                      have hw2 : IntKind.i64.wrap ((k : Int) + 8) = (k : Int) + 8 := by rw [IntKind.wrap_i64]; omega
                      have hw3 : max ((k : Int) + ((m : Int) + 8)) 0 = (k : Int) + ((m : Int) + 8) := by omega
                      have hw4 : ((k : Int) + 8).toNat = k + 8 := by omega
                      have hw5 : ((k : Int) + ((m : Int) + 8)).toNat = k + (m + 8) := by omega
                      have hw6 : k + (m + 8) - (k + 8) = m := by omega
                      have hw7 : (0 : Int) ≤ (k : Int) + ((m : Int) + 8) := by omega
                      have sl1 : (0 : Int) ≤ (k : Int) + 8 := by omega
                      have sl2 : (k : Int) + 8 ≤ (k : Int) + ((m : Int) + 8) := by omega
                      have sl3 : (k : Int) + ((m : Int) + 8) ≤ (cap : Int) := by omega
                      go_wp2
                      obtain ⟨W, hW⟩ : ∃ W, (wr.drewN nq).setCell ⟨R, 2, none⟩ (.int .i64 (s.n + ((m : Int) + 8) - 8)) = W := ⟨_, rfl⟩
                      rw [hW]
                      have dz : W.heap.size = wr.heap.size := by rw [← hW]; show ((wr.drewN nq).setCell _ _).heap.size = (wr.drewN nq).heap.size; simp
                      have d0 : W.cell? ⟨R, 0, none⟩ = some (.slice (some ⟨b, o, none⟩) zs.length cap) := by rw [← hW, World.cell?_setCell_other _ _ _ _ (ne_addr (by decide))]; exact c0
                      have d1 : W.cell? ⟨R, 1, none⟩ = some (.slice av s.l.length capv) := by rw [← hW, World.cell?_setCell_other _ _ _ _ (ne_addr (by decide))]; exact c1
                      have d2 : W.cell? ⟨R, 2, none⟩ = some (.int .i64 (s.n + ((m : Int) + 8) - 8)) := by rw [← hW]; exact World.cell?_setCell_same _ _ _ c2
                      have d3 : W.cell? ⟨R, 3, none⟩ = some (.int .i64 0) := by rw [← hW, World.cell?_setCell_other _ _ _ _ (ne_addr (by decide))]; exact c3
                      have d4 : W.cell? ⟨R, 4, none⟩ = some (.int .i64 0) := by rw [← hW, World.cell?_setCell_other _ _ _ _ (ne_addr (by decide))]; exact c4
                      have dfz : ∀ i, W.frozen? ⟨R, i, none⟩ = false := fun i => by rw [← hW, World.frozen?_setCell]; exact hfz i
                      have hownW : OwnL W B (.slice av s.l.length capv) L := by rw [← hW]; exact (unhide hown').setOff (unhide hoff') 2 _
                      have hFW : Fr R B wr W := by rw [← hW]; exact ((Fr.refl R B wr).drewN nq).set 2 _
                      have hRW : R < W.heap.size := by omega
                      have hBW : B ≤ W.heap.size := by omega
                      obtain ⟨ad, had, hrowW⟩ : ∃ ad, (if cap = k + 8 then some (⟨b, o, none⟩ : Addr) else some ⟨b, o + (k + 8), none⟩) = some ad ∧ Row false 0 Hh W (some ad) (inner (seg zs k t)) := by
                        by_cases hce : cap = k + 8
                        · refine ⟨⟨b, o, none⟩, if_pos hce, ?_⟩
                          have e0 : inner (seg zs k t) = [] := List.eq_nil_of_length_eq_zero (by have := inner_len (unhide g1') (unhide g2'); rw [unhide hszm'] at this; omega)
                          rw [e0]; exact Row.nil
                        · refine ⟨⟨b, o + (k + 8), none⟩, if_neg hce, ?_⟩
                          have h1 := ((unhide hRow').fr hFW hHR hHB).take (k + (m + 8)) |>.drop (k + 8)
                          rw [seg_inner (unhide hszm') hmt]; exact h1
                      have hdl : (inner (seg zs k t)).length = m := by
                        have := inner_len (unhide g1') (unhide g2'); rw [unhide hszm'] at this; omega
                      have hownA : Hid ((W.alloc (.cells #[] 5)).drew.ownsRow W.heap.size 5 1 (.slice (some ⟨W.heap.size, 0, none⟩) 0 0) 0 []) := hide (World.ownsRow_lit (base := W.heap.size) (e := 5) (size := 1) W #[] 0 (Nat.le_refl _) (by unfold maxLen; omega) rfl)
                      have hrowA : Hid (Row false 0 Hh (W.alloc (.cells #[] 5)).drew (some ad) (inner (seg zs k t))) := hide (hrowW.below (((Below.refl W.heap.size W).alloc (Nat.le_refl _) _).drew) (by omega))
                      have hbdI := hide (inner_bd (seg_bd (f := k) (t := t) (unhide hRow').bd))
                      have hownW' := hide hownW
                      have hFW' := hide hFW
                      have hdl' := hide hdl
                      have dn1 : 0 ≤ s.n + ((m : Int) + 8) - 8 := by omega
                      have dn2 : s.n + ((m : Int) + 8) - 8 ≤ 20000 := by omega
                      have hA1 : W.heap.size ≤ (W.alloc (.cells #[] 5)).drew.heap.size := by show _ ≤ (W.alloc (.cells #[] 5)).heap.size; simp
                      have dz' := hide dz
                      clear hW c0 c1 c2 c3 c4 f3 f4 hownW hFW hrowW hdl hcv dz
                      go_cut [] from 13 to 186 (fun wx => Hid (SSt wx R B (.slice (some ⟨b, o, none⟩) zs.length cap) ⟨s.l ++ [⟨kindOf (seg zs k t), dep, inner (seg zs k t)⟩], s.n + ((m : Int) + 8) - 8⟩ 0 0) ∧ Hid (Fr R B w wx))
                      case first =>
                        go_region_law ((first
                          | (refine step_bytes _ (by rfl) _ _ (by rfl) W.heap.size 0 Hh (.slice (some ⟨W.heap.size, 0, none⟩) 0 0) [] (by rfl) (unhide hownA) ad m (cap - (k + 8)) (inner (seg zs k t)) (unhide hdl') (by rfl) (unhide hrowA) (by omega) hA1 ?_
                             intro v5 w5 hown5 hgrow5 hiff5
                             obtain ⟨g5, cp5, rfl, hg5, hg5', hmc5, hcm5⟩ := form5 hown5 hiff5
                             have x5 : ∀ i, w5.cell? ⟨R, i, none⟩ = W.cell? ⟨R, i, none⟩ := fun i => (World.cell?_of_block (a := ⟨R, i, none⟩) (hgrow5.block R (by show R < (W.alloc (.cells #[] 5)).heap.size; simp; omega) (by intro e; exact absurd (Option.some.inj e) (by show R ≠ W.heap.size; omega)))).trans (World.cell?_alloc_past _ _ _ hRW)
                             have y5 : ∀ i, w5.frozen? ⟨R, i, none⟩ = W.frozen? ⟨R, i, none⟩ := fun i => (World.frozen?_of_block (a := ⟨R, i, none⟩) (hgrow5.block R (by show R < (W.alloc (.cells #[] 5)).heap.size; simp; omega) (by intro e; exact absurd (Option.some.inj e) (by show R ≠ W.heap.size; omega)))).trans (World.frozen?_of_block (a := ⟨R, i, none⟩) (Below.heap_alloc W _ _ hRW))
                             have hb5 : Hid (Below W.heap.size W w5) := hide ((((Below.refl W.heap.size W).alloc (Nat.le_refl _) _).drew).grown hgrow5 (by show _ ≤ (W.alloc (.cells #[] 5)).heap.size; simp) (fun k hk => by have e2 : W.heap.size = k := Option.some.inj hk; omega))
                             have z5 : W.heap.size ≤ w5.heap.size := (unhide hb5).size
                             have hr5 : R < w5.heap.size := by omega
                             have hown5' := hide hown5
                             clear hown5 hgrow5 hiff5)
                          | (refine step_box _ (by rfl) _ _ (by rfl) B R (.slice av s.l.length capv) L (⟨kindOf (seg zs k t), dep, inner (seg zs k t)⟩, (some ⟨g5, 0, none⟩, cp5)) (by rfl) (((unhide hownW').below (unhide hb5)).below ((Below.refl _ _).alloc (Nat.le_refl _) _)) (unhide hoff') w5.heap.size (by rfl) (by have h0 := heap_alloc_new w5 (.cells (cell3 (⟨kindOf (seg zs k t), dep, inner (seg zs k t)⟩, ((some ⟨g5, 0, none⟩ : Option Addr), cp5))).toArray 42); simp only [cell3, unhide hdl'] at h0 ⊢; exact h0)
                               (good_of_row (unhide hown5') (unhide hbdI) (unhide hdl') hks (by omega) (by omega) hmc5 hcm5 (by omega) (own_ne (unhide hownW') hg5) ((Below.refl _ _).alloc (Nat.le_refl _) _))
                               (by intro y hy; injection hy with hy; subst hy; show g5 ≠ R; omega)
                               (by intro q hq x y hx hy; injection hy with hy; subst hy; have := ((unhide hownW').2.1 q hq).2.2.2.2.2.2 x hx; have := this.1; show x.block ≠ g5; have := hg5; omega)
                               (by have := unhide hLl'; omega) (by simp; omega) (by simp; omega) ?_
                             intro gg cc w3 hown3 hoff3 hgrow3
                             have hb3 : w3.heap[R]? = w5.heap[R]? := (hgrow3.block R (by simp; omega) (Ne.symm (unhide hoff').1)).trans (Below.heap_alloc _ _ _ hr5)
                             have x3 : ∀ i, w3.cell? ⟨R, i, none⟩ = W.cell? ⟨R, i, none⟩ := fun i => (World.cell?_of_block (a := ⟨R, i, none⟩) hb3).trans (x5 i)
                             have y3 : ∀ i, w3.frozen? ⟨R, i, none⟩ = W.frozen? ⟨R, i, none⟩ := fun i => (World.frozen?_of_block (a := ⟨R, i, none⟩) hb3).trans (y5 i)
                             have hown3' := hide hown3
                             have hoff3' := hide hoff3
                             have hgrow3' := hide hgrow3
                             clear hown3 hoff3 hgrow3 hb3)))
                        all_goals
                          have hend := leaf_end (s := s) d0 d1 d2 d3 d4 dfz hRW hBW (unhide hb5) (unhide hownW') (unhide hoff') (unhide hgrow3') (unhide hown3') (unhide hoff3') (unhide hL') (by omega) dn1 dn2
                          have hendS := hide hend.1
                          have hendF := hide ((unhide hFr').trans ((unhide hFW').trans hend.2))
                          clear hend x3 y3 x5 y5 d0 d1 d2 d3 d4 dfz
                          go_wp2_with fail
                          go_meet
                          exact ⟨hendS, hendF⟩
                      case rest =>
                        obtain ⟨hendS, hendF⟩ := hcut
                        clear d0 d1 d2 d3 d4 dfz hownA hrowA hbdI hownW' hFW' hdl' hA1 dz'
                        go_wp2
                        go_roundw
                        case rel =>
                          refine ⟨k + (m + 8), n, ⟨s.l ++ [⟨kindOf (seg zs k t), dep, inner (seg zs k t)⟩], s.n + ((m : Int) + 8) - 8⟩, 0, 0, by go_num, by omega, by omega, hide ⟨unhide hendS, .inl ⟨rfl, rfl, by have := unhide hn'; omega, ?_⟩⟩, unhide hendF⟩
                          have h1 := rd_leaf (n := n) (pos := (k : Int)) (unhide hpos') (unhide hf0') hH
                          have e8 : ((m + 8 : Nat) : Int) = (m : Int) + 8 := by omega
                          have ek : ((k + (m + 8) : Nat) : Int) = (k : Int) + ((m : Int) + 8) := by omega
                          rw [unhide hres', seg_rest (unhide hszm') hkt, unhide hszm', e8] at h1
                          rw [ek]
                          exact h1.symm
                        case measure => simp [intOf]; omega
                  · have hf0' := hide (hf0 (dep := dep) (s := s) (unhide g0') (unhide g1') (unhide g2') hK (by omega) h200 (.inl hH))
                    go_wp2_with fail
                    refine (skind_any (kindOf (seg zs k t)) true _ hks hK).mono ?_
                    rintro e w1 ⟨rfl, rfl⟩
                    go_wp2_with fail
                    refine (holds_any (kindOf (seg zs k t)) true _ hksz hks hH).mono ?_
                    rintro e w1 ⟨rfl, rfl⟩
                    go_wp2_with fail
                    refine (holds_any (kindOf (seg zs k t)) true _ hksz hks hH).mono ?_
                    rintro e w1 ⟨rfl, rfl⟩
                    have hownA := hide ((unhide hown').below ((Below.refl wr.heap.size wr).alloc (Nat.le_refl _) (.cells #[.string (kindOf (seg zs k t)), .int .i64 dep, .slice none 0 0] 42)))
                    go_wp2_with (at_builtin; refine wpList_box _ rfl _ _ rfl B R (.slice av s.l.length capv) L (⟨kindOf (seg zs k t), dep, []⟩, (none, 0)) rfl ?k0 (unhide hoff') wr.heap.size rfl ?k1 ?k2 ?k3 ?k4 ?k5 ?k6 ?k7 ?_)
                    case k0 => exact unhide hownA
                    case k1 => exact heap_alloc_new wr _
                    case k2 => exact ⟨Row.nil, hks, by show _ ≤ dep; omega, by show dep ≤ _; omega, Nat.le_refl _, Nat.zero_le _, fun y hy => by cases hy⟩
                    case k5 => have := unhide hLl'; omega
                    case k6 => show B ≤ (wr.alloc _).heap.size; simp; omega
                    case k7 => show R < (wr.alloc _).heap.size; simp; omega
                    intro gg cc w3 hown3 hoff3 hgrow3
                    have hX : ∀ i, ((wr.drewN nq).alloc (.cells #[.string (kindOf (seg zs k t)), .int .i64 dep, .slice none 0 0] 42)).cell? ⟨R, i, none⟩ = wr.cell? ⟨R, i, none⟩ := fun i => World.cell?_alloc_past _ _ _ hR
                    have hst3 : SSt (w3.setCell ⟨R, 1, none⟩ (.slice (some ⟨gg, 0, none⟩) (L.length + 1) cc)) R B (.slice (some ⟨b, o, none⟩) zs.length cap) ⟨s.l ++ [⟨kindOf (seg zs k t), dep, []⟩], s.n⟩ 0 0 :=
                      SSt.app (s := s) (w := (wr.drewN nq).alloc (.cells #[.string (kindOf (seg zs k t)), .int .i64 dep, .slice none 0 0] 42)) ((hX 0).trans c0) ((hX 1).trans c1) ((hX 2).trans c2) ((hX 3).trans c3) ((hX 4).trans c4) (fun i => (World.frozen?_of_block (a := ⟨R, i, none⟩) (Below.heap_alloc (wr.drewN nq) _ _ hR)).trans (hfz i)) (by show R < (wr.alloc _).heap.size; simp; omega) (by show B ≤ (wr.alloc _).heap.size; simp; omega) (unhide hoff') hgrow3 hown3 hoff3 (by rw [List.map_append, unhide hL']; rfl) (by simp; omega) n0 n1
                    have hF3 : Fr R B wr w3 := Fr.of (((below_drewN (Below.refl B wr) nq).alloc hB _).grown hgrow3 (by show B ≤ (wr.alloc _).heap.size; simp; omega) (fun g hg => ((unhide hown').1.lt g hg).1))
                    have hF3s := hF3.set 1 (.slice (some ⟨gg, 0, none⟩) (L.length + 1) cc)
                    have hcall := unhide hih' (by omega) n (k + 8) (k + (m + 8)) zs (some ⟨b, o, none⟩) cap Hh R B _ _ (by omega) (by omega) hl40 hlc hc2 (by have := unhide hn'; omega) hHR hHB ((unhide hRow').fr hF3s hHR hHB) hst3
                    rw [← seg_inner (unhide hszm') hmt] at hcall
                    rw [show ((k + 8 : Nat) : Int) = (k : Int) + 8 by omega, show ((k + (m + 8) : Nat) : Int) = (k : Int) + ((m : Int) + 8) by omega] at hcall
                    have x0 : w3.cell? ⟨R, 1, none⟩ = some (.slice av s.l.length capv) := by
                      rw [World.cell?_of_block (a := ⟨R, 1, none⟩) (hgrow3.block R (by show R < (wr.alloc _).heap.size; simp; omega) (Ne.symm (unhide hoff').1))]; exact (hX 1).trans c1
                    have x1 : w3.frozen? ⟨R, 1, none⟩ = false := by
                      rw [World.frozen?_of_block (a := ⟨R, 1, none⟩) (hgrow3.block R (by show R < (wr.alloc _).heap.size; simp; omega) (Ne.symm (unhide hoff').1))]; exact (World.frozen?_of_block (a := ⟨R, 1, none⟩) (Below.heap_alloc (wr.drewN nq) _ _ hR)).trans (hfz 1)
                    have hcall' := hide hcall
                    have hFF := hide ((unhide hFr').trans hF3s)
                    clear hcall hst3 hF3 hF3s hown3 hoff3 hgrow3 hX
                    go_wp2_with fail
                    refine (unhide hcall').mono ?_
                    rintro e w4 ⟨rfl, hst4, hF4⟩
                    have hFF4 := hide ((unhide hFF).trans hF4)
                    have hst4' := hide hst4
                    clear hst4 hF4 hcall' hFF
                    go_wp2
                    go_roundw
                    case rel =>
                      obtain ⟨r, hr2⟩ : ∃ r, rdAll n (inner (seg zs k t)) (dep + 1) ((k : Int) + 8) ⟨s.l ++ [⟨kindOf (seg zs k t), dep, []⟩], s.n⟩ = r := ⟨_, rfl⟩
                      have hst5 := unhide hst4'
                      rw [hr2] at hst5
                      obtain ⟨s1, fo⟩ := r
                      refine ⟨k + (m + 8), n, s1, (fo.getD (0, 0)).1, (fo.getD (0, 0)).2, by go_num, by omega, by omega, hide ⟨hst5, ?_⟩, unhide hFF4⟩
                      cases fo with
                      | none =>
                        refine .inl ⟨rfl, rfl, by have := unhide hn'; omega, ?_⟩
                        have h1 := rd_in_go (n := n) (unhide hpos') (unhide hf0') hH hr2
                        rw [unhide hres', seg_rest (unhide hszm') hkt, unhide hszm'] at h1
                        rw [h1, show ((k + (m + 8) : Nat) : Int) = (k : Int) + ((m + 8 : Nat) : Int) by omega]
                      | some fv =>
                        refine .inr ⟨rd_code n _ _ _ _ fv (by rw [hr2]), ?_⟩
                        have h1 := rd_in_fault (n := n) (unhide hpos') (unhide hf0') hH hr2
                        rw [unhide hres'] at h1
                        exact h1
                    case measure => simp [intOf]; omega
      · have hfin : res = (s, none) := by
          rw [← hres]
          have e : seg zs k t = [] := List.eq_nil_of_length_eq_zero (by rw [seg_len hkt htl]; omega)
          rw [e]; exact rd_nil
        have hfin' := hide hfin
        have hltb : decide ((k : Int) < (t : Int)) = false := decide_eq_false (by omega)
        clear hfin hres hn hRow hown hL hoff
        go_wp2
        exact ⟨rfl, .tuple #[], by simp [results, Try.results16, go_sem], rfl, by rw [unhide hfin']; exact unhide hst', unhide hFr'⟩
    · have hcb : (c == 0) = false := by simpa using hcne
      have hfin' := hide hres
      clear hres hRow hown hL hoff hcne
      by_cases hlt : k < t
      · have hltb : decide ((k : Int) < (t : Int)) = true := decide_eq_true (by omega)
        go_wp2
        exact ⟨rfl, .tuple #[], by simp [results, Try.results16, go_sem], rfl, by rw [unhide hfin']; exact unhide hst', unhide hFr'⟩
      · have hltb : decide ((k : Int) < (t : Int)) = false := decide_eq_false (by omega)
        go_wp2
        exact ⟨rfl, .tuple #[], by simp [results, Try.results16, go_sem], rfl, by rw [unhide hfin']; exact unhide hst', unhide hFr'⟩
theorem sp_zero : SpC 0 := by
  have h9 : SpC 9 := sp_step 9 (by omega) (by omega) (fun h => by omega)
  have h8 : SpC 8 := sp_step 8 (by omega) (by omega) (fun _ => h9)
  have h7 : SpC 7 := sp_step 7 (by omega) (by omega) (fun _ => h8)
  have h6 : SpC 6 := sp_step 6 (by omega) (by omega) (fun _ => h7)
  have h5 : SpC 5 := sp_step 5 (by omega) (by omega) (fun _ => h6)
  have h4 : SpC 4 := sp_step 4 (by omega) (by omega) (fun _ => h5)
  have h3 : SpC 3 := sp_step 3 (by omega) (by omega) (fun _ => h4)
  have h2 : SpC 2 := sp_step 2 (by omega) (by omega) (fun _ => h3)
  have h1 : SpC 1 := sp_step 1 (by omega) (by omega) (fun _ => h2)
  exact sp_step 0 (by omega) (by omega) (fun _ => h1)
end Go.Proofs.Ytfdbnlmfnhhcbaa
