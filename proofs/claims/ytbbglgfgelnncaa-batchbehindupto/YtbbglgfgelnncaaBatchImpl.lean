/- The landed package batch answers by definition. No statement of the seat is proved here. -/
import Derived.Test.YtbbglgfgelnncaaBatchImplScan
import Derived.Test.YtbbglgfgelnncaaBatchImplRecs
import Derived.Test.YtbbglgfgelnncaaBatchImplGlue
import Derived.Test.YtbbglgfgelnncaaBatchImplCut
namespace Go.Proofs.Ytbbglgfgelnncaa
open Go.RowKit

theorem batchOk : BatchOk where
  put := fun u rows w h _ => landPut_any u rows w h
  long := fun u rows w h _ => landLong_any u rows w h
  scan := fun a n c b w h hl => landScan_any a n c b w h hl
  cut := fun a n c b w h hl => landCut_any a n c b w h hl
  glue := fun u rows w h ht hl => landGlue_any u rows w h ht hl
end Go.Proofs.Ytbbglgfgelnncaa
