/- What Append does to a disk that New made. No statement of the seat is proved here. -/
import Derived.Test.YtoabpjdpdcpdlaaMeth
namespace Go.Proofs.Ytoabpjdpdcpdlaa
open Go.RowKit

theorem enters_fn {P : Program} {f : FuncId} {fn : Func} {c : Code} (hf : P.funcs[f]? = some fn) (hname : (fn.name == "runtime.NumGoroutine") = false) (hb : fn.body = some c) (args : Array Value) (w : World) :
    (callFunc f args).run P w = .ok (.enter f args) w := by
  have h1 : fn.name ≠ "runtime.NumGoroutine" := by simpa using hname
  simp [callFunc, hf, h1, hb]

theorem makes (fn : Fn) (first cap : Array Value) (w : World) : (Instr.makeFunc fn first cap).run Try.prog w = .ok (.func fn first cap) w := rfl

section
variable {w : World} {p : Nat} {D : Nat → Prop} {v : Nat → Value} {A : AD}

theorem Now.same (h : DiskIs w p D v A) {w' : World} (hs : Step D D w w') (hk : ∀ k, D k → w'.heap[k]? = w.heap[k]?) : Now D p A w w' := ⟨D, v, h.kept hs.size hk, hs⟩


end
end Go.Proofs.Ytoabpjdpdcpdlaa
