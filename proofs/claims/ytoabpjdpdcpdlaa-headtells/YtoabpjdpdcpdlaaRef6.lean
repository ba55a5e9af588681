/- What the functions of the document's own disk (foremanref01) do: Append. No statement of the seat is proved here. -/
import Derived.Test.YtoabpjdpdcpdlaaRef5
import Derived.LoopN
namespace Go.Proofs.Ytoabpjdpdcpdlaa
open Go.RowKit

/-- One slice of the value is stored anew. -/
theorem rl_set {W : World} {g : Nat} {t : TypeId} {c : Int} {P : Nat → Option Addr} {N C : Nat → Nat} {bf : Bool} {n k : Int} {d : Bool} (hg : W.heap[g]? = some (.cells (rl c P N C bf n k d) t (0, 0))) (j : Nat) (hj : j < 8) (a : Option Addr) (m q : Nat) :
    (W.setCell ⟨g, 1 + j, none⟩ (.slice a m q)).heap[g]? = some (.cells (rl c (upd P j a) (upd N j m) (upd C j q) bf n k d) t (0, 0)) := by
  rw [heap_setCell_same _ _ _ _ _ _ hg]
  rcases (show j = 0 ∨ j = 1 ∨ j = 2 ∨ j = 3 ∨ j = 4 ∨ j = 5 ∨ j = 6 ∨ j = 7 by omega) with rfl | rfl | rfl | rfl | rfl | rfl | rfl | rfl <;> rfl

theorem rl_one (c : Int) (P : Nat → Option Addr) (N C : Nat → Nat) (bf : Bool) (n k : Int) (d : Bool) : ((rl c P N C bf n k d).all fun x => x.oneCell') = true := by
  unfold rl
  simp [Value.oneCell']

theorem rl_frz {W : World} {g : Nat} {t : TypeId} {cs : Array Value} (hg : W.heap[g]? = some (.cells cs t (0, 0))) (j : Nat) : W.frozen? ⟨g, j, none⟩ = false := frozen_of_row _ _ _ _ _ hg

/-- What 'kills' answers. -/
def Kills (c : Int) (P : Nat → Option Addr) (N C : Nat → Nat) (bf : Bool) (n k : Int) (n' : Int) (dd : Bool) : Prop :=
  ∀ w : World, Calls Try.prog 60 #[.agg (rl c P N C bf n k false)] w fun e w' => e = .returned (.tuple #[.agg (rl c P N C bf n' k dd), .bool dd]) ∧ Below w.heap.size w w'

section
variable (c : Int) (P : Nat → Option Addr) (N C : Nat → Nat) (bf : Bool) (n k : Int) (w : World)

end
end Go.Proofs.Ytoabpjdpdcpdlaa
