/- What the functions of the document's own disk (foremanref01) do: Sync. No statement of the seat is proved here. -/
import Derived.Test.YtoabpjdpdcpdlaaRef6
namespace Go.Proofs.Ytoabpjdpdcpdlaa
open Go.RowKit

section
variable (c : Int) (P : Nat → Option Addr) (N C : Nat → Nat) (bf : Bool) (n k : Int) (w : World)

end
end Go.Proofs.Ytoabpjdpdcpdlaa
