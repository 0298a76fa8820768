/- A world forgotten but for facts; cuts ahead of a region. -/
import Derived.Test.YtdggkcohidijcaaRgHeld
import Derived.Test.YtdggkcohidijcaaHaBase
import Derived.Deep.Cut
import Derived.Deep.CutBlock
namespace Go.Proofs.Ytdggkcohidijcaa
open Go.RowKit
set_option linter.unusedVariables false

theorem wp_genW {P : Program} {c : Code} {Q : Exit → Act → World → Prop} {a : Act} (F : World → Prop) {W0 : World} (h0 : F W0) (h : ∀ W, F W → Code.wp P c Q a W) : Code.wp P c Q a W0 := h W0 h0

theorem alloc_last (w : World) (o : Obj) : (w.alloc o).heap[w.heap.size]? = some o := (MapKept.heap_alloc w o).1

end Go.Proofs.Ytdggkcohidijcaa
