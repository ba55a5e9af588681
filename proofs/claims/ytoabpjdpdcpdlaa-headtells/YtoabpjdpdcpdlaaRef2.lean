/- What the functions of the document's own disk (foremanref01) do: kills. No statement of the seat is proved here. -/
import Derived.Test.YtoabpjdpdcpdlaaRef1
import Derived.Laws.ResultCell
namespace Go.Proofs.Ytoabpjdpdcpdlaa
open Go.RowKit

/-- A struct in a cell and a number in a slot are handed back. -/
theorem results_ctr {P : Program} {fn : Func} {p u : Tmp} {ty : TypeId} (h : fn.results = #[.cell p ty, .tmp u]) (tmps : Array Value) (w : World) (g : Nat) (t : TypeId) (cs : Array Value) (fr : Nat × Nat) (d : TypeDesc)
    (hp : tmps.getD p undef = .pointer (some ⟨g, 0, none⟩)) (hg : w.heap[g]? = some (.cells cs t fr))
    (hu : P.underlying ty = some d) (hd : (match d with | .struct _ | .array _ _ => true | _ => false) = true) (hi : (P.info? ty).map (·.size) = some cs.size) :
    (results fn tmps).run P w = .ok (.tuple #[.agg cs, tmps.getD u undef]) w := by
  have hp' : tmps[p]?.getD undef = .pointer (some ⟨g, 0, none⟩) := by simpa using hp
  rw [results_cell_tmp h]
  simp [hp', asAddr, run_loadVar_row w g t ty cs fr d hg hu hd hi, Result.andThen]

theorem heap_last (w : World) (o : Obj) (g : Nat) (h : w.heap.size = g) : (w.alloc o).heap[g]? = some o := by subst h; exact heap_alloc_new w o

section
variable (c : Int) (P : Nat → Option Addr) (N C : Nat → Nat) (n k : Int) (d : Bool) (w : World)

set_option maxHeartbeats 2000000 in
theorem kills_no : Calls Try.prog 60 #[.agg (rl c P N C false n k d)] w fun e w' => e = .returned (.tuple #[.agg (rl c P N C false n k d), .bool false]) ∧ Below w.heap.size w w' := by
  unfold rl
  go_enter Try.func60, Try.ntmps60
  go_wp2
  refine bodyPost_ret (results_ctr rfl _ _ _ _ _ _ _ rfl (heap_last _ _ _ (by simp)) Try.underlying43 rfl (by kernel_rfl)) rfl ?_
  exact ⟨rfl, ((Below.refl _ w).alloc (Nat.le_refl _) _).alloc (by simp) _⟩

set_option maxHeartbeats 2000000 in
theorem kills_yes : Calls Try.prog 60 #[.agg (rl c P N C true 0 k d)] w fun e w' => e = .returned (.tuple #[.agg (rl c P N C true 0 k true), .bool true]) ∧ Below w.heap.size w w' := by
  unfold rl
  go_enter Try.func60, Try.ntmps60
  go_wp2
  refine bodyPost_ret (results_ctr rfl _ _ _ _ _ _ _ rfl (heap_last _ _ _ (by simp)) Try.underlying43 rfl (by kernel_rfl)) rfl ?_
  exact ⟨rfl, ((Below.refl _ w).alloc (Nat.le_refl _) _).alloc (by simp) _⟩

set_option maxHeartbeats 2000000 in
theorem kills_tick (hn : 0 < n) (hn2 : n ≤ 9223372036854775807) : Calls Try.prog 60 #[.agg (rl c P N C true n k d)] w fun e w' => e = .returned (.tuple #[.agg (rl c P N C true (n - 1) k d), .bool false]) ∧ Below w.heap.size w w' := by
  unfold rl
  have hw : IntKind.i64.wrap (n - 1) = n - 1 := by rw [IntKind.wrap_i64]; omega
  have hne : ¬ n = 0 := by omega
  clear hn hn2
  go_enter Try.func60, Try.ntmps60
  go_wp2
  refine bodyPost_ret (results_ctr rfl _ _ _ _ _ _ _ rfl (heap_last _ _ _ (by simp)) Try.underlying43 rfl (by kernel_rfl)) rfl ?_
  exact ⟨rfl, ((Below.refl _ w).alloc (Nat.le_refl _) _).alloc (by simp) _⟩
end
end Go.Proofs.Ytoabpjdpdcpdlaa
