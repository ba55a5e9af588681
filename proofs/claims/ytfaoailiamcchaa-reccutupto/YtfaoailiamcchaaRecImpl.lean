/- The landed package rec answers by definition. No statement of the seat is proved here. -/
import Derived.Test.YtfaoailiamcchaaRecImplPut
import Derived.Test.YtfaoailiamcchaaRecImplAll
import Derived.Test.YtfaoailiamcchaaRecOk
namespace Go.Proofs.Ytfaoailiamcchaa
open Go.RowKit

theorem recOk : RecOk where
  put := fun r a n c w h _ => recPut_any r a n c w h
  take := fun a n c b w h _ => recTake_any a n c b w h
  all := fun a n c b w h hl => (recAll_any a n c b w h hl).mono fun e w' h => by
    obtain ⟨v, rs, m, x, h1, h2, h3⟩ := h
    exact ⟨v, rs, m, x, h1, h2, h3.recsAt, h3.bb⟩
  long := fun n w => (long_any n w).mono fun e w' h => ⟨h.1, by rw [h.2]; exact Below.refl _ _⟩
end Go.Proofs.Ytfaoailiamcchaa
