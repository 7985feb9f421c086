/-
  What a swap of samples leaves; all blocks but the list's own stand.
-/
import Derived.Test.YtmpbcmpjfcddoaaSyP
namespace Go.Proofs.Ytmpbcmpjfcddoaa
open Go.RowKit
set_option linter.unusedVariables false
set_option linter.unusedSimpArgs false
namespace D
theorem fin_up {w wr : World} {B gg n cap i j : Nat} {L L1 : List Kl} {x0 x1 x2 x3 x4 y0 y1 y2 y3 y4 : Int} (hx : L1[i]? = some (x0, x1, x2, x3, x4)) (hy : L1[j]? = some (y0, y1, y2, y3, y4)) (hij : i ≠ j) (ha : Alk L1 (swp L1 i j (x0, x1, x2, x3, x4) (y0, y1, y2, y3, y4))) (h : Dn w B gg n cap L L1 wr) :
    Dn w B gg n cap L (swp L1 i j (x0, x1, x2, x3, x4) (y0, y1, y2, y3, y4)) (((((((((((wr.setCell ⟨gg, i * 5, none⟩ (.int .i64 y0)).setCell ⟨gg, i * 5 + 1, none⟩ (.int .i64 y1)).setCell ⟨gg, i * 5 + 2, none⟩ (.int .i64 y2)).setCell ⟨gg, i * 5 + 3, none⟩ (.int .i64 y3)).setCell ⟨gg, i * 5 + 4, none⟩ (.int .i64 y4)).setCell ⟨gg, j * 5, none⟩ (.int .i64 x0)).setCell ⟨gg, j * 5 + 1, none⟩ (.int .i64 x1)).setCell ⟨gg, j * 5 + 2, none⟩ (.int .i64 x2)).setCell ⟨gg, j * 5 + 3, none⟩ (.int .i64 x3)).setCell ⟨gg, j * 5 + 4, none⟩ (.int .i64 x4)).drew) :=
  ⟨own_drew (own_swp2 hx hy h.1), h.2.1.trans ha, grown_drew (grown_set10 h.2.2)⟩
theorem fin_dn {w wr : World} {B gg n cap i j : Nat} {L L1 : List Kl} {x0 x1 x2 x3 x4 y0 y1 y2 y3 y4 : Int} (hx : L1[i]? = some (x0, x1, x2, x3, x4)) (hy : L1[j]? = some (y0, y1, y2, y3, y4)) (hij : i ≠ j) (ha : Alk L1 (swp L1 i j (x0, x1, x2, x3, x4) (y0, y1, y2, y3, y4))) (h : Dn w B gg n cap L L1 wr) :
    Dn w B gg n cap L (swp L1 i j (x0, x1, x2, x3, x4) (y0, y1, y2, y3, y4)) (((((((((((wr.setCell ⟨gg, j * 5, none⟩ (.int .i64 x0)).setCell ⟨gg, j * 5 + 1, none⟩ (.int .i64 x1)).setCell ⟨gg, j * 5 + 2, none⟩ (.int .i64 x2)).setCell ⟨gg, j * 5 + 3, none⟩ (.int .i64 x3)).setCell ⟨gg, j * 5 + 4, none⟩ (.int .i64 x4)).setCell ⟨gg, i * 5, none⟩ (.int .i64 y0)).setCell ⟨gg, i * 5 + 1, none⟩ (.int .i64 y1)).setCell ⟨gg, i * 5 + 2, none⟩ (.int .i64 y2)).setCell ⟨gg, i * 5 + 3, none⟩ (.int .i64 y3)).setCell ⟨gg, i * 5 + 4, none⟩ (.int .i64 y4)).drew) :=
  ⟨own_drew (own_swp hx hy hij h.1), h.2.1.trans ha, grown_drew (grown_set10 h.2.2)⟩

end D
end Go.Proofs.Ytmpbcmpjfcddoaa
