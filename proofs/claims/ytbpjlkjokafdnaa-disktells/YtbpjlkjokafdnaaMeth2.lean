/- What Append does to a disk that New made. No statement of the seat is proved here. -/
import Derived.Test.YtbpjlkjokafdnaaMeth
namespace Go.Proofs.Ytbpjlkjokafdnaa
open Go.RowKit

theorem enters_fn {P : Program} {f : FuncId} {fn : Func} {c : Code} (hf : P.funcs[f]? = some fn) (hname : (fn.name == "runtime.NumGoroutine") = false) (hb : fn.body = some c) (args : Array Value) (w : World) :
    (callFunc f args).run P w = .ok (.enter f args) w := by
  have h1 : fn.name ≠ "runtime.NumGoroutine" := by simpa using hname
  simp [callFunc, hf, h1, hb]

theorem makes (fn : Fn) (first cap : Array Value) (w : World) : (Instr.makeFunc fn first cap).run Try.prog w = .ok (.func fn first cap) w := rfl

section
variable {w : World} {p : Nat} {D : Nat → Prop} {v : Nat → Value} {A : AD}

theorem Now.same (h : DiskIs w p D v A) {w' : World} (hs : Step D D w w') (hk : ∀ k, D k → w'.heap[k]? = w.heap[k]?) : Now D p A w w' := ⟨D, v, h.kept hs.size hk, hs⟩

set_option maxHeartbeats 400000 in
theorem appendLit_any (h : DiskIs w p D v A) (i : Nat) (hi : i < 2) (u : Value) (bs : List UInt8) (hu : Bytes w u bs) (hroom : ((A.x i).length : Int) + bs.length + (A.x (1 - i)).length ≤ A.cap)
    (b1 b2 : Nat) (c1 : w.cell? ⟨b1, 0, none⟩ = some (.pointer (some ⟨p, 2 + 2 * i, none⟩))) (c2 : w.cell? ⟨b2, 0, none⟩ = some u) :
    Calls Try.prog 44 #[.pointer (some ⟨b1, 0, none⟩), .pointer (some ⟨b2, 0, none⟩)] w fun e w' => e = .returned (.tuple #[]) ∧ Now D p { A with x := upd A.x i (A.x i ++ bs) } w w' := by
  have HD := hide h
  have HU := hide hu
  clear h hu
  go_enter Try.func44, Try.ntmps44
  go_wp2_with (go_at_call 45; refine (grow_any (unhide HD) i hi _ bs (unhide HU) hroom).mono ?_; rintro e w' ⟨rfl, hN⟩)
  go_end0
  exact ⟨rfl, hN⟩

set_option maxHeartbeats 400000 in
theorem append_dead (h : DiskIs w p D v A) (hd : A.dead = true) (s : Int) (u : Value) (hu : ∃ a n c, u = .slice a n c) : Calls Try.prog 21 #[.pointer (some ⟨p, 0, none⟩), .int .i64 s, u] w fun e w' => e = .returned (.int .i64 3) ∧ Now D p A w w' := by
  obtain ⟨a, n, c, rfl⟩ := hu
  have HD := hide h
  clear h
  go_enter Try.func21, Try.ntmps21
  go_wp2_with (go_at_call 37; refine (fault_dead ((unhide HD).alloc _) hd).mono ?_; rintro e w' ⟨rfl, rfl⟩)
  go_ret
  exact ⟨rfl, D, v, (unhide HD).alloc _, (Step.refl D w).alloc _⟩

set_option maxHeartbeats 400000 in
theorem append_arg (h : DiskIs w p D v A) (hd : A.dead = false) (s : Int) (hs : s < 0 ∨ 2 ≤ s) (u : Value) (hu : ∃ a n c, u = .slice a n c) : Calls Try.prog 21 #[.pointer (some ⟨p, 0, none⟩), .int .i64 s, u] w fun e w' => e = .returned (.int .i64 2) ∧ Now D p A w w' := by
  obtain ⟨a, n, c, rfl⟩ := hu
  have HD := hide h
  clear h
  have HS := hide hs
  clear hs
  go_enter Try.func21, Try.ntmps21
  go_wp2_with (first
    | (go_at_call 37; refine (fault_alive ((unhide HD).alloc _) hd).mono ?_; rintro e w' ⟨rfl, rfl⟩)
    | (go_at_call 40; refine (isSegment_no _ _ (unhide HS)).mono ?_; rintro e w' ⟨rfl, rfl⟩))
  go_ret
  exact ⟨rfl, D, v, (unhide HD).alloc _, (Step.refl D w).alloc _⟩

set_option maxHeartbeats 400000 in
theorem append_full (h : DiskIs w p D v A) (hd : A.dead = false) (i : Nat) (hi : i < 2) (u : Value) (bs : List UInt8) (hu : Bytes w u bs) (hroom : A.cap < ((A.x 0).length : Int) + (A.x 1).length + bs.length) :
    Calls Try.prog 21 #[.pointer (some ⟨p, 0, none⟩), .int .i64 i, u] w fun e w' => e = .returned (.int .i64 5) ∧ Now D p A w w' := by
  obtain ⟨a, c, hv⟩ : ∃ a c, u = .slice a bs.length c := by
    rcases hu with ⟨rfl, rfl⟩ | ⟨b, c, rfl, _⟩
    · exact ⟨_, _, rfl⟩
    · exact ⟨_, _, rfl⟩
  subst hv
  have HD := hide h
  clear h hu
  have hlt : (A.cap - (A.x 0).length - (A.x 1).length : Int) < bs.length := by omega
  clear hroom
  go_enter Try.func21, Try.ntmps21
  go_wp2_with (first
    | (go_at_call 37; refine (fault_alive ((unhide HD).alloc _) hd).mono ?_; rintro e w' ⟨rfl, rfl⟩)
    | (go_at_call 40; refine (isSegment_yes _ _ (by omega) (by omega)).mono ?_; rintro e w' ⟨rfl, rfl⟩))
  go_quiet ((go_at_call 38; exact Calls.quiet_of_same (room_any (((unhide HD).alloc _).drewN _))))
  go_wp2
  go_ret
  exact ⟨rfl, D, v, ((unhide HD).alloc _).drewN _, ((Step.refl D w).alloc _).drewN _⟩
end
end Go.Proofs.Ytbpjlkjokafdnaa
