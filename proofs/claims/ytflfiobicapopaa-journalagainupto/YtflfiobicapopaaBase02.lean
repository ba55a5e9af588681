/- Leaf4, Meth, Meth2, Meth3, Meth4, Meth5, Meth6, Awake: our own definitions and contracts; no statement of the seat is proved here. -/
import Derived.Test.YtflfiobicapopaaBase01
import Derived.Deep.RegionLaw
import Derived.Laws.CopyOwn
import Derived.Laws.EntriesVeiled
import Derived.Deep.RegionHeld3
namespace Go.Proofs.Ytflfiobicapopaa
open Go.RowKit

section
variable {w : World} {p : Nat} {D : Nat → Prop} {v : Nat → Value} {A : AD}

theorem infoSlot : (Try.prog.info? 72).map (·.size) = some 32 := by kernel_rfl

theorem drop_all {l : List UInt8} {bs : List UInt8} (h : l.length = 32) (hb : bs.length = 32) : bs ++ l.drop bs.length = bs := by
  rw [List.drop_of_length_le (by omega), List.append_nil]

/-- The same as one step of a region that draws its order. -/
theorem step_copy_mid {P : Program} {ops : Array Oper} {op : Oper} {a : Act} {w : World} {K : Act → World → Prop} {Q : Exit → Act → World → Prop} {E : Prop} (hgd : op.guard = none) (d s : Operand) (dT sT : TypeId)
    (ho : op.op = .call { callee := .builtin .copy, args := #[d, s], argTypes := #[dT, sT] }) (elem : TypeId) (hu : P.underlying dT = some (.slice elem)) (hsz : (P.info? elem).map (·.size) = some 1)
    (b o dLen dCap : Nat) (ad : Addr) (sLen sCap : Nat) (hd : a.eval d = .slice (some ⟨b, o, none⟩) dLen dCap) (hs : a.eval s = .slice (some ad) sLen sCap)
    (cs : List Value) (hn : cs.length = Nat.min sLen dLen) (hsrc : ∀ j u, cs[j]? = some u → w.cell? (ad.add j) = some u) (ht : w.there b o cs.length) (h1 : ∀ u ∈ cs, u.oneCell' = true)
    (h : K (a.put op.dst (goInt cs.length)) (w.setCells b o cs)) :
    if Region.wanted op (yielded ops a.tmps) = true then Oper.wp P op a w K Q else E := by
  have hw : Region.wanted op (yielded ops a.tmps) = true := by simp [Region.wanted, hgd]
  rw [if_pos hw]
  have hrun := run_copy_cells (P := P) w dT sT op.type elem b o dLen dCap ad sLen sCap cs hu hsz hn hsrc (fun j hj => (ht j hj).1) (fun j hj => (ht j hj).2) h1
  unfold Oper.wp
  simp [execOp, ho, resolve, invoke, builtin, hd, hs, hrun, Result.andThen]
  exact h

set_option maxRecDepth 100000 in
set_option maxHeartbeats 400000 in
theorem slotSync_any (h : DiskIs w p D v A) (i : Nat) (hi : i < 2) :
    Calls Try.prog 71 #[.pointer (some ⟨p, 6 + 64 * i, none⟩)] w fun e w' => e = .returned (.tuple #[]) ∧ Now D p { A with sf := upd A.sf i (A.sh i) } w w' := by
  have e1 : 6 + 64 * i + 32 = 38 + 64 * i := by omega
  have HR := hide (h.slh i hi)
  have l1 := h.ok.sh i hi
  have HI : Hid ((Try.prog.info? 72).map (·.size) = some ((A.sh i).map bv).length) := by rw [List.length_map, l1]; exact infoSlot
  have HT : Hid (w.there p (6 + 64 * i) ((A.sh i).map bv).toArray.size) := h.there fun j hj => (h.slf i hi).isSome j (by have := h.ok.sf i hi; simp only [List.size_toArray, List.length_map] at hj ⊢; omega)
  have HI2 : Hid ((Try.prog.info? 72).map (·.size) = some ((A.sh i).map bv).toArray.size) := by rw [List.size_toArray]; exact HI
  have HD := hide h
  clear h
  go_enter Try.func71, Try.ntmps71
  go_wp2_with (first
    | refine wpList_load_mid rfl 72 (.tmp 5) rfl p (38 + 64 * i) rfl ((A.sh i).map bv) _ (unhide HR) Try.underlying72 rfl (unhide HI) ?_
    | refine wpList_store_mid rfl 72 (.tmp 8) (.tmp 6) rfl p (6 + 64 * i) ((A.sh i).map bv).toArray rfl rfl (unhide HT) (unhide HI2) (all_oneCell_toArray (bv_one _)) ?_)
  go_end0
  have h2 := (unhide HD).setSafeSlot i hi (A.sh i) (by omega)
  rw [drop_all ((unhide HD).ok.sf i hi) l1] at h2
  refine ⟨rfl, D, v, h2, ?_⟩
  exact (Step.refl D w).setCells (unhide HD).own _ _

set_option maxRecDepth 100000 in
set_option maxHeartbeats 400000 in
theorem slotWrite_any (h : DiskIs w p D v A) (i : Nat) (hi : i < 2) (u : Value) (bs : List UInt8) (hu : Bytes w u bs) (hb : bs.length = 32) :
    Calls Try.prog 98 #[.pointer (some ⟨p, 6 + 64 * i, none⟩), u] w fun e w' => e = .returned (.tuple #[]) ∧ Now D p { A with sh := upd A.sh i bs } w w' := by
  have e1 : 6 + 64 * i + 32 = 38 + 64 * i := by omega
  have HT : Hid (w.there p (38 + 64 * i) (bs.map bv).length) := h.there fun j hj => (h.slh i hi).isSome j (by have := h.ok.sh i hi; simp only [List.length_map] at hj ⊢; omega)
  have HD := hide h
  clear h
  rcases hu with ⟨rfl, rfl⟩ | ⟨ad, c, rfl, _, _, hr⟩
  · simp at hb
  · have HR : Hid (∀ j x, (bs.map bv)[j]? = some x → w.cell? (ad.add j) = some x) := hr
    have HL : Hid ((bs.map bv).length = Nat.min bs.length 32) := by rw [List.length_map, hb]; rfl
    have HB := hide hb
    clear hr hb
    go_enter Try.func98, Try.ntmps98
    go_wp2_with (refine wpList_copy_mid rfl (.tmp 7) (.tmp 8) 49 49 rfl 5 Try.underlying49 infoByteSize p (38 + 64 * i) 32 32 ad bs.length c rfl rfl (bs.map bv) (unhide HL) (unhide HR) (unhide HT) (bv_one _) ?_)
    go_end0
    have h2 := (unhide HD).setShown i hi bs (by have := unhide HB; omega)
    rw [drop_all ((unhide HD).ok.sh i hi) (unhide HB)] at h2
    exact ⟨rfl, D, v, h2, (Step.refl D w).setCells (unhide HD).own _ _⟩

/-- Behind a crash of slot i that keeps k of what is shown. -/
def AD.crashSlot (A : AD) (i : Nat) (k : Int) : AD :=
  { A with sf := upd A.sf i ((A.sh i).take (keepN k 32) ++ (A.sf i).drop (keepN k 32)), sh := upd A.sh i ((A.sh i).take (keepN k 32) ++ (A.sf i).drop (keepN k 32)) }

set_option maxRecDepth 100000 in
set_option maxHeartbeats 400000 in
theorem slotCrash_any (h : DiskIs w p D v A) (i : Nat) (hi : i < 2) (k : Int) :
    Calls Try.prog 49 #[.pointer (some ⟨p, 6 + 64 * i, none⟩), .int .i64 k] w fun e w' => e = .returned (.tuple #[]) ∧ Now D p (A.crashSlot i k) w w' := by
  have e1 : 6 + 64 * i + 32 = 38 + 64 * i := by omega
  have l0 := h.ok.sf i hi
  have l1 := h.ok.sh i hi
  have hkl := keepN_le k 32
  have HK : Hid (min (max k 0) (32 : Int) = keepN k 32) := keepN_eq k 32
  unfold AD.crashSlot
  generalize keepN k 32 = t at *
  have hlt : ((A.sh i).take t).length = t := by rw [List.length_take]; omega
  have h2 := (h.drewN 1).setSafeSlot i hi ((A.sh i).take t) (by omega)
  rw [hlt] at h2
  obtain ⟨nb, hnb⟩ : ∃ nb, nb = (A.sh i).take t ++ (A.sf i).drop t := ⟨_, rfl⟩
  obtain ⟨cs, hcs⟩ : ∃ cs, cs = ((A.sh i).take t).map bv := ⟨_, rfl⟩
  have hln : nb.length = 32 := by rw [hnb, List.length_append, hlt, List.length_drop]; omega
  rw [← hnb, ← hcs] at h2
  rw [← hnb]
  have HT : Hid (w.drew.there p (6 + 64 * i) cs.length) := h.drew.there fun j hj => (h.slf i hi).isSome j (by rw [hcs] at hj; simp only [List.length_map] at hj ⊢; omega)
  have HR : Hid (∀ j x, cs[j]? = some x → w.drew.cell? ((⟨p, 38 + 64 * i, none⟩ : Addr).add j) = some x) := fun j x hx => by
    rw [Addr.add_mid]
    refine h.slh i hi j x ?_
    rw [hcs, List.map_take, List.getElem?_take] at hx
    split at hx
    · exact hx
    · cases hx
  have HL : Hid (cs.length = Nat.min t 32) := by rw [hcs, List.length_map, hlt]; show t = min t 32; omega
  have H1 : Hid (∀ u ∈ cs, u.oneCell' = true) := by rw [hcs]; exact bv_one _
  have HR2 : Hid ((w.drew.setCells p (6 + 64 * i) cs).rangeAt p (6 + 64 * i) (nb.map bv)) := by have h5 := h2.slf i hi; simp only [upd_same] at h5; exact h5
  have HI : Hid ((Try.prog.info? 72).map (·.size) = some (nb.map bv).length) := by rw [List.length_map, hln]; exact infoSlot
  have HI2 : Hid ((Try.prog.info? 72).map (·.size) = some (nb.map bv).toArray.size) := by rw [List.size_toArray]; exact HI
  have HT2 : Hid ((w.drew.setCells p (6 + 64 * i) cs).there p (38 + 64 * i) (nb.map bv).toArray.size) := h2.there fun j hj => (h2.slh i hi).isSome j (by simp only [List.size_toArray, List.length_map] at hj ⊢; omega)
  have H2 : Hid (DiskIs (w.drew.setCells p (6 + 64 * i) cs) p D v { A with sf := upd A.sf i nb }) := h2
  have HD := hide h
  have HLN := hide hln
  have ht0 : (0 : Int) ≤ (t : Int) := by omega
  have ht1 : (t : Int) ≤ 32 := by omega
  clear h hlt h2 hnb hcs hln
  go_enter Try.func49, Try.ntmps49
  go_wp2
  go_region_law (first
    | (refine step_copy_mid rfl (.tmp 7) (.tmp 13) 49 49 rfl 5 Try.underlying49 infoByteSize p (6 + 64 * i) 32 32 ⟨p, 38 + 64 * i, none⟩ t 32 (by simp [Act.eval, Act.put]) (by simp [Act.eval, Act.put]) cs (unhide HL) (unhide HR) (unhide HT) (unhide H1) ?_)
    | (go_simp; go_at_call 62; refine (between_any _ _ _).mono ?_; rintro e w' ⟨rfl, rfl⟩; rw [unhide HK]))
  go_wp2_with (first
    | refine wpList_load_mid rfl 72 (.tmp 18) rfl p (6 + 64 * i) rfl (nb.map bv) _ (unhide HR2) Try.underlying72 rfl (unhide HI) ?_
    | refine wpList_store_mid rfl 72 (.tmp 21) (.tmp 19) rfl p (38 + 64 * i) (nb.map bv).toArray rfl rfl (unhide HT2) (unhide HI2) (all_oneCell_toArray (bv_one _)) ?_)
  go_end0
  have h3 := (unhide H2).setShown i hi nb (by have := unhide HLN; omega)
  rw [drop_all ((unhide H2).ok.sh i hi) (unhide HLN)] at h3
  exact ⟨rfl, D, v, h3, (((Step.refl D w).drew).setCells (unhide HD).own _ _).setCells (unhide HD).own _ _⟩
end
end Go.Proofs.Ytflfiobicapopaa

namespace Go.Proofs.Ytflfiobicapopaa
open Go.RowKit

section
variable {w : World} {p : Nat} {D : Nat → Prop} {v : Nat → Value} {A : AD}

/-- The fuse burns by one call. -/
def AD.tick (A : AD) : AD := { A with calls := if 0 < A.calls then A.calls - 1 else A.calls }

set_option maxHeartbeats 400000 in
theorem change_kill (h : DiskIs w p D v A) (hc : A.calls = 0) (f : Value) : Calls Try.prog 59 #[.pointer (some ⟨p, 0, none⟩), f] w fun e w' => e = .returned (.int .i64 3) ∧ DiskIs w' p D v { A with dead := true } ∧ Step D D w w' := by
  have HD := hide h
  have h1 := h.calls
  have h2 := h.dead
  have h3 := h.frz 136
  rw [hc] at h1
  clear h hc
  go_enter Try.func59, Try.ntmps59
  go_wp2
  go_ret
  exact ⟨rfl, (unhide HD).setDead true, (Step.refl D w).setCell (p := ⟨p, 136, none⟩) (unhide HD).own _⟩

theorem tick_pos (h : 0 < A.calls) : A.tick = { A with calls := A.calls - 1 } := by unfold AD.tick; rw [if_pos h]
theorem tick_neg (h : ¬ 0 < A.calls) : A.tick = A := by unfold AD.tick; rw [if_neg h]

set_option maxHeartbeats 400000 in
theorem change_do (h : DiskIs w p D v A) (hc : A.calls ≠ 0) (K : FuncId) (caps : Array Value) (hent : ∀ W, (callFunc K caps).run Try.prog W = .ok (.enter K caps) W) (R : World → Prop)
    (hdo : ∀ w1, DiskIs w1 p D v A.tick → Step D D w w1 → Calls Try.prog K caps w1 fun e w' => e = .returned (.tuple #[]) ∧ R w') :
    Calls Try.prog 59 #[.pointer (some ⟨p, 0, none⟩), .func (.func K) #[] caps] w fun e w' => e = .returned (.int .i64 0) ∧ R w' := by
  have h1 := h.calls
  have h3 := h.frz 134
  have hb := h.ok.calls
  have HD := hide h
  have HDO := hide hdo
  clear h hdo
  have hnz : (A.calls == 0) = false := by simpa using hc
  clear hc
  by_cases hp : 0 < A.calls
  · have h4 := (unhide HD).setCalls (A.calls - 1) (by omega)
    rw [← tick_pos hp] at h4
    have H4 := hide h4
    clear h4
    go_enter Try.func59, Try.ntmps59
    go_wp2_with fail
    refine (unhide HDO _ (unhide H4) ((Step.refl D w).setCell (p := ⟨p, 134, none⟩) (unhide HD).own _)).mono ?_
    rintro e w' ⟨rfl, hR⟩
    go_wp2
    go_ret
    exact ⟨rfl, hR⟩
  · have H4 : Hid (DiskIs w p D v A.tick) := by rw [tick_neg hp]; exact HD
    go_enter Try.func59, Try.ntmps59
    go_wp2_with fail
    refine (unhide HDO _ (unhide H4) (Step.refl D w)).mono ?_
    rintro e w' ⟨rfl, hR⟩
    go_wp2
    go_ret
    exact ⟨rfl, hR⟩
end
end Go.Proofs.Ytflfiobicapopaa

namespace Go.Proofs.Ytflfiobicapopaa
open Go.RowKit

theorem enters_fn {P : Program} {f : FuncId} {fn : Func} {c : Code} (hf : P.funcs[f]? = some fn) (hname : (fn.name == "runtime.NumGoroutine") = false) (hb : fn.body = some c) (args : Array Value) (w : World) :
    (callFunc f args).run P w = .ok (.enter f args) w := by
  have h1 : fn.name ≠ "runtime.NumGoroutine" := by simpa using hname
  simp [callFunc, hf, h1, hb]

theorem makes (fn : Fn) (first cap : Array Value) (w : World) : (Instr.makeFunc fn first cap).run Try.prog w = .ok (.func fn first cap) w := rfl

section
variable {w : World} {p : Nat} {D : Nat → Prop} {v : Nat → Value} {A : AD}

theorem Now.same (h : DiskIs w p D v A) {w' : World} (hs : Step D D w w') (hk : ∀ k, D k → w'.heap[k]? = w.heap[k]?) : Now D p A w w' := ⟨D, v, h.kept hs.size hk, hs⟩

set_option maxHeartbeats 400000 in
theorem appendLit_any (h : DiskIs w p D v A) (i : Nat) (hi : i < 2) (u : Value) (bs : List UInt8) (hu : Bytes w u bs) (hroom : ((A.x i).length : Int) + bs.length + (A.x (1 - i)).length ≤ A.cap)
    (b1 b2 : Nat) (c1 : w.cell? ⟨b1, 0, none⟩ = some (.pointer (some ⟨p, 2 + 2 * i, none⟩))) (c2 : w.cell? ⟨b2, 0, none⟩ = some u) :
    Calls Try.prog 60 #[.pointer (some ⟨b1, 0, none⟩), .pointer (some ⟨b2, 0, none⟩)] w fun e w' => e = .returned (.tuple #[]) ∧ Now D p { A with x := upd A.x i (A.x i ++ bs) } w w' := by
  have HD := hide h
  have HU := hide hu
  clear h hu
  go_enter Try.func60, Try.ntmps60
  go_wp2_with (go_at_call 61; refine (grow_any (unhide HD) i hi _ bs (unhide HU) hroom).mono ?_; rintro e w' ⟨rfl, hN⟩)
  go_end0
  exact ⟨rfl, hN⟩

set_option maxHeartbeats 400000 in
theorem append_dead (h : DiskIs w p D v A) (hd : A.dead = true) (s : Int) (u : Value) (hu : ∃ a n c, u = .slice a n c) : Calls Try.prog 23 #[.pointer (some ⟨p, 0, none⟩), .int .i64 s, u] w fun e w' => e = .returned (.int .i64 3) ∧ Now D p A w w' := by
  obtain ⟨a, n, c, rfl⟩ := hu
  have HD := hide h
  clear h
  go_enter Try.func23, Try.ntmps23
  go_wp2_with (go_at_call 33; refine (fault_dead ((unhide HD).alloc _) hd).mono ?_; rintro e w' ⟨rfl, rfl⟩)
  go_ret
  exact ⟨rfl, D, v, (unhide HD).alloc _, (Step.refl D w).alloc _⟩

set_option maxHeartbeats 400000 in
theorem append_arg (h : DiskIs w p D v A) (hd : A.dead = false) (s : Int) (hs : s < 0 ∨ 2 ≤ s) (u : Value) (hu : ∃ a n c, u = .slice a n c) : Calls Try.prog 23 #[.pointer (some ⟨p, 0, none⟩), .int .i64 s, u] w fun e w' => e = .returned (.int .i64 2) ∧ Now D p A w w' := by
  obtain ⟨a, n, c, rfl⟩ := hu
  have HD := hide h
  clear h
  have HS := hide hs
  clear hs
  go_enter Try.func23, Try.ntmps23
  go_wp2_with (first
    | (go_at_call 33; refine (fault_alive ((unhide HD).alloc _) hd).mono ?_; rintro e w' ⟨rfl, rfl⟩)
    | (go_at_call 57; refine (isSegment_no _ _ (unhide HS)).mono ?_; rintro e w' ⟨rfl, rfl⟩))
  go_ret
  exact ⟨rfl, D, v, (unhide HD).alloc _, (Step.refl D w).alloc _⟩

set_option maxHeartbeats 400000 in
theorem append_full (h : DiskIs w p D v A) (hd : A.dead = false) (i : Nat) (hi : i < 2) (u : Value) (bs : List UInt8) (hu : Bytes w u bs) (hroom : A.cap < ((A.x 0).length : Int) + (A.x 1).length + bs.length) :
    Calls Try.prog 23 #[.pointer (some ⟨p, 0, none⟩), .int .i64 i, u] w fun e w' => e = .returned (.int .i64 5) ∧ Now D p A w w' := by
  obtain ⟨a, c, hv⟩ : ∃ a c, u = .slice a bs.length c := by
    rcases hu with ⟨rfl, rfl⟩ | ⟨b, c, rfl, _⟩
    · exact ⟨_, _, rfl⟩
    · exact ⟨_, _, rfl⟩
  subst hv
  have HD := hide h
  clear h hu
  have hlt : (A.cap - (A.x 0).length - (A.x 1).length : Int) < bs.length := by omega
  clear hroom
  go_enter Try.func23, Try.ntmps23
  go_wp2_with (first
    | (go_at_call 33; refine (fault_alive ((unhide HD).alloc _) hd).mono ?_; rintro e w' ⟨rfl, rfl⟩)
    | (go_at_call 57; refine (isSegment_yes _ _ (by omega) (by omega)).mono ?_; rintro e w' ⟨rfl, rfl⟩))
  go_quiet ((go_at_call 58; exact Calls.quiet_of_same (room_any (((unhide HD).alloc _).drewN _))))
  go_wp2
  go_ret
  exact ⟨rfl, D, v, ((unhide HD).alloc _).drewN _, ((Step.refl D w).alloc _).drewN _⟩
end
end Go.Proofs.Ytflfiobicapopaa

namespace Go.Proofs.Ytflfiobicapopaa
open Go.RowKit

section
variable {w : World} {p : Nat} {D : Nat → Prop} {v : Nat → Value} {A : AD}

theorem entersAppend (args : Array Value) (w : World) : (callFunc 60 args).run Try.prog w = .ok (.enter 60 args) w := enters_fn Try.func60 (by kernel_rfl) rfl args w

theorem append_change (h : DiskIs w p D v A) (hc : A.calls ≠ 0) (i : Nat) (hi : i < 2) (u : Value) (bs : List UInt8) (hu : Bytes w u bs) (hn : bs ≠ [] → ∀ k, u.ownBlock = some k → ¬ D k) (hroom : ((A.x i).length : Int) + bs.length + (A.x (1 - i)).length ≤ A.cap)
    (b1 b2 : Nat) (c1 : w.cell? ⟨b1, 0, none⟩ = some (.pointer (some ⟨p, 2 + 2 * i, none⟩))) (c2 : w.cell? ⟨b2, 0, none⟩ = some u) (n1 : ¬ D b1) (n2 : ¬ D b2) :
    Calls Try.prog 59 #[.pointer (some ⟨p, 0, none⟩), .func (.func 60) #[] #[.pointer (some ⟨b1, 0, none⟩), .pointer (some ⟨b2, 0, none⟩)]] w fun e w' => e = .returned (.int .i64 0) ∧ Now D p { A.tick with x := upd A.x i (A.x i ++ bs) } w w' :=
  change_do h hc _ _ (entersAppend _) (Now D p { A.tick with x := upd A.x i (A.x i ++ bs) } w) (fun _ h1 s1 =>
    (appendLit_any h1 i hi u bs (s1.bytes hu hn) hroom b1 b2 (s1.cell c1 n1) (s1.cell c2 n2)).mono fun _ _ ⟨he, hN⟩ => ⟨he, Now.after s1 hN⟩)

theorem two_boxes (w : World) (x y : Value) (t s : TypeId) (n : Nat) : (((w.alloc (.cells #[x] t)).drewN n).alloc (.cells #[y] s)).cell? ⟨w.heap.size, 0, none⟩ = some x ∧ (((w.alloc (.cells #[x] t)).drewN n).alloc (.cells #[y] s)).cell? ⟨w.heap.size + 1, 0, none⟩ = some y := by
  have h1 : (((w.alloc (.cells #[x] t)).drewN n).alloc (.cells #[y] s)).heap[w.heap.size]? = some (.cells #[x] t (0, 0)) := by
    rw [Below.heap_alloc _ _ _ (by simp)]; exact heap_alloc_new w _
  have h2 : (((w.alloc (.cells #[x] t)).drewN n).alloc (.cells #[y] s)).heap[w.heap.size + 1]? = some (.cells #[y] s (0, 0)) := by
    have := heap_alloc_new ((w.alloc (.cells #[x] t)).drewN n) (.cells #[y] s)
    have e : ((w.alloc (.cells #[x] t)).drewN n).heap.size = w.heap.size + 1 := by simp
    rw [e] at this; exact this
  exact ⟨cell_of_row _ _ 0 _ _ _ h1, cell_of_row _ _ 0 _ _ _ h2⟩

theorem DiskIs.fresh (h : DiskIs w p D v A) (k : Nat) (hk : w.heap.size ≤ k) : ¬ D k := fun hd => by have := h.lt k hd; omega

theorem room_of {i : Nat} (hi : i < 2) {n : Nat} (hroom : ((A.x 0).length : Int) + (A.x 1).length + n ≤ A.cap) : ((A.x i).length : Int) + n + (A.x (1 - i)).length ≤ A.cap := by
  rcases (show i = 0 ∨ i = 1 by omega) with rfl | rfl
  · show ((A.x 0).length : Int) + n + (A.x 1).length ≤ A.cap; omega
  · show ((A.x 1).length : Int) + n + (A.x 0).length ≤ A.cap; omega

set_option maxHeartbeats 1000000 in
theorem append_ok (h : DiskIs w p D v A) (hd : A.dead = false) (hc : A.calls ≠ 0) (i : Nat) (hi : i < 2) (u : Value) (bs : List UInt8) (hu : Bytes w u bs) (hn : bs ≠ [] → ∀ k, u.ownBlock = some k → ¬ D k) (hroom : ((A.x 0).length : Int) + (A.x 1).length + bs.length ≤ A.cap) :
    Calls Try.prog 23 #[.pointer (some ⟨p, 0, none⟩), .int .i64 i, u] w fun e w' => e = .returned (.int .i64 0) ∧ Now D p { A.tick with x := upd A.x i (A.x i ++ bs) } w w' := by
  obtain ⟨a, c, hv⟩ : ∃ a c, u = .slice a bs.length c := by
    rcases hu with ⟨rfl, rfl⟩ | ⟨b, c, rfl, _⟩
    · exact ⟨_, _, rfl⟩
    · exact ⟨_, _, rfl⟩
  subst hv
  have HD := hide h
  have HU := hide hu
  have HN := hide hn
  have hpl := h.lt p h.own
  clear h hu hn
  have hle : ¬ ((A.cap - (A.x 0).length - (A.x 1).length : Int) < bs.length) := by omega
  have hi0 : (0 : Int) ≤ (i : Int) := by omega
  have hi2 : (i : Int) < 2 := by omega
  have e1 : 2 + i * 2 = 2 + 2 * i := by omega
  have hmk := makes
  go_enter Try.func23, Try.ntmps23
  go_wp2_with (first
    | (go_at_call 33; refine (fault_alive ((unhide HD).alloc _) hd).mono ?_; rintro e w' ⟨rfl, rfl⟩)
    | (go_at_call 57; refine (isSegment_yes _ _ (by omega) (by omega)).mono ?_; rintro e w' ⟨rfl, rfl⟩))
  go_quiet ((go_at_call 58; exact Calls.quiet_of_same (room_any (((unhide HD).alloc _).drewN _))))
  go_wp2_with fail
  refine (append_change ((((unhide HD).alloc _).drewN _).alloc _) hc i hi (.slice a bs.length c) bs (Bytes.alloc (Bytes.kept ((unhide HU).alloc _) (fun _ _ _ => rfl)) _) (unhide HN) (room_of hi hroom) (w.heap.size + 1) w.heap.size
    (two_boxes w _ _ _ _ _).2 (two_boxes w _ _ _ _ _).1 ((unhide HD).fresh _ (by omega)) ((unhide HD).fresh _ (by omega))).mono ?_
  rintro e w' ⟨rfl, hN⟩
  go_wp2
  go_ret
  exact ⟨rfl, Now.after ((((Step.refl D w).alloc _).drewN _).alloc _) hN⟩

/-- Dead, with the first bytes of what was to be appended. -/
def AD.killed (A : AD) (i : Nat) (bs : List UInt8) : AD := { A with dead := true, x := upd A.x i (A.x i ++ bs.take (keepN A.part bs.length)) }

set_option maxHeartbeats 1000000 in
theorem append_kill (h : DiskIs w p D v A) (hd : A.dead = false) (hc : A.calls = 0) (i : Nat) (hi : i < 2) (u : Value) (bs : List UInt8) (hu : Bytes w u bs) (hn : bs ≠ [] → ∀ k, u.ownBlock = some k → ¬ D k) (hroom : ((A.x 0).length : Int) + (A.x 1).length + bs.length ≤ A.cap) :
    Calls Try.prog 23 #[.pointer (some ⟨p, 0, none⟩), .int .i64 i, u] w fun e w' => e = .returned (.int .i64 3) ∧ Now D p (A.killed i bs) w w' := by
  obtain ⟨a, c, hv, hlc⟩ : ∃ a c, u = .slice a bs.length c ∧ bs.length ≤ c := by
    rcases hu with ⟨rfl, rfl⟩ | ⟨b, c, rfl, hlc, _⟩
    · exact ⟨_, _, rfl, Nat.le_refl _⟩
    · exact ⟨_, _, rfl, hlc⟩
  subst hv
  have hkl := keepN_le A.part bs.length
  have HK := hide (keepN_eq A.part bs.length)
  unfold AD.killed
  generalize keepN A.part bs.length = t at *
  have hbt : Bytes w (.slice a t c) (bs.take t) := by
    rcases hu with ⟨hv, rfl⟩ | ⟨b, c', hv, hl1, hl2, hr⟩
    · simp only [Value.slice.injEq] at hv
      obtain ⟨rfl, _, rfl⟩ := hv
      have : t = 0 := by simpa using hkl
      subst this
      exact .inl ⟨rfl, by simp⟩
    · simp only [Value.slice.injEq] at hv
      obtain ⟨rfl, _, rfl⟩ := hv
      have hlt : (bs.take t).length = t := by rw [List.length_take]; omega
      refine .inr ⟨b, c, by rw [hlt], by omega, hl2, fun j x hx => hr j x ?_⟩
      rw [List.map_take, List.getElem?_take] at hx
      split at hx
      · exact hx
      · cases hx
  have HD := hide h
  have HB := hide hbt
  have HN := hide hn
  have hpart := h.part
  clear h hu hn hbt
  have hle : ¬ ((A.cap - (A.x 0).length - (A.x 1).length : Int) < bs.length) := by omega
  have hi0 : (0 : Int) ≤ (i : Int) := by omega
  have hi2 : (i : Int) < 2 := by omega
  have e1 : 2 + i * 2 = 2 + 2 * i := by omega
  have ht0 : (0 : Int) ≤ (t : Int) := by omega
  have ht1 : (t : Int) ≤ (c : Int) := by omega
  have hmk := makes
  have hpl := (unhide HD).lt p (unhide HD).own
  go_enter Try.func23, Try.ntmps23
  go_wp2_with (first
    | (go_at_call 33; refine (fault_alive ((unhide HD).alloc _) hd).mono ?_; rintro e w' ⟨rfl, rfl⟩)
    | (go_at_call 57; refine (isSegment_yes _ _ (by omega) (by omega)).mono ?_; rintro e w' ⟨rfl, rfl⟩))
  go_quiet ((go_at_call 58; exact Calls.quiet_of_same (room_any (((unhide HD).alloc _).drewN _))))
  go_wp2_with fail
  refine (change_kill ((((unhide HD).alloc _).drewN _).alloc _) hc _).mono ?_
  rintro e w2 ⟨rfl, hD2, hS2⟩
  have c1 := hS2.cell (two_boxes w _ _ _ _ _).2 ((unhide HD).fresh _ (by simp))
  have c2 := hS2.cell (two_boxes w _ _ _ _ _).1 ((unhide HD).fresh _ (by simp))
  have c3 := hD2.part
  have n1 : ¬ D (w.heap.size + 1) := (unhide HD).fresh _ (by omega)
  have n2 : ¬ D w.heap.size := (unhide HD).fresh _ (by omega)
  have HB2 : Hid (Bytes w2 (.slice a t c) (bs.take t)) := hS2.bytes (Bytes.alloc (Bytes.kept ((unhide HB).alloc _) (fun _ _ _ => rfl)) _) (by
    intro hne k hk; refine unhide HN (fun e => hne (by rw [e]; exact List.take_nil)) k ?_; cases a <;> exact hk)
  have HD2 := hide hD2
  have HS2 := hide hS2
  clear hD2 hS2
  go_wp2
  go_region_held3 (fun w' => w'.cell? ⟨w.heap.size + 1, 0, none⟩ = some (.pointer (some ⟨p, 2 + 2 * i, none⟩)) ∧ w'.cell? ⟨w.heap.size, 0, none⟩ = some (.slice a bs.length c) ∧ w'.cell? ⟨p, 135, none⟩ = some (.int .i64 A.part)) (go_keep)
    (first
      | (go_at_call 62; refine (between_any _ _ _).mono ?_; rintro e w' ⟨rfl, rfl⟩; rw [unhide HK])
      | (go_at_call 61; refine (grow_any ((unhide HD2).drewN _) i hi _ (bs.take t) (Bytes.kept (unhide HB2) (fun _ _ _ => rfl)) (by have := room_of hi hroom; rw [List.length_take]; show ((A.x i).length : Int) + (min t bs.length : Nat) + (A.x (1 - i)).length ≤ A.cap; omega)).mono ?_; rintro e w' ⟨rfl, D3, v3, hD3, hS3⟩; have q1 := hS3.cell (p := ⟨w.heap.size + 1, 0, none⟩) c1 n1; have q2 := hS3.cell (p := ⟨w.heap.size, 0, none⟩) c2 n2; have q3 := hD3.part))
  go_wp2
  go_ret
  exact ⟨rfl, D3, v3, hD3, ((((((Step.refl D w).alloc _).drewN _).alloc _).trans (unhide HS2)).drewN _).trans hS3⟩
end
end Go.Proofs.Ytflfiobicapopaa

namespace Go.Proofs.Ytflfiobicapopaa
open Go.RowKit

section
variable {w : World} {p : Nat} {D : Nat → Prop} {v : Nat → Value} {A : AD}

set_option maxHeartbeats 400000 in
theorem free_alive (h : DiskIs w p D v A) (hd : A.dead = false) : Calls Try.prog 66 #[.pointer (some ⟨p, 0, none⟩)] w fun e w' => e = .returned (.int .i64 (A.cap - (A.x 0).length - (A.x 1).length)) ∧ w' = w := by
  have HD := hide h
  clear h
  go_enter Try.func66, Try.ntmps66
  go_wp2_with (first
    | (go_at_call 33; refine (fault_alive (unhide HD) hd).mono ?_; rintro e w' ⟨rfl, rfl⟩)
    | (go_at_call 58; refine (room_any (unhide HD)).mono ?_; rintro e w' ⟨rfl, rfl⟩))
  go_ret
  exact ⟨rfl, rfl⟩

set_option maxHeartbeats 400000 in
theorem free_dead (h : DiskIs w p D v A) (hd : A.dead = true) : Calls Try.prog 66 #[.pointer (some ⟨p, 0, none⟩)] w fun e w' => e = .returned (.int .i64 0) ∧ w' = w := by
  have HD := hide h
  clear h
  go_enter Try.func66, Try.ntmps66
  go_wp2_with (go_at_call 33; refine (fault_dead (unhide HD) hd).mono ?_; rintro e w' ⟨rfl, rfl⟩)
  go_ret
  exact ⟨rfl, rfl⟩

set_option maxHeartbeats 400000 in
theorem dead_any (h : DiskIs w p D v A) : Calls Try.prog 77 #[.pointer (some ⟨p, 0, none⟩)] w fun e w' => e = .returned (.bool A.dead) ∧ w' = w := by
  cases hd : A.dead
  · have HD := hide h
    clear h
    go_enter Try.func77, Try.ntmps77
    go_wp2_with (go_at_call 33; refine (fault_alive (unhide HD) hd).mono ?_; rintro e w' ⟨rfl, rfl⟩)
    go_ret
    exact ⟨rfl, rfl⟩
  · have HD := hide h
    clear h
    go_enter Try.func77, Try.ntmps77
    go_wp2_with (go_at_call 33; refine (fault_dead (unhide HD) hd).mono ?_; rintro e w' ⟨rfl, rfl⟩)
    go_ret
    exact ⟨rfl, rfl⟩

theorem Fresh.step {w w' : World} {r : Value} {bs : List UInt8} (h : Fresh w w' r bs) (D : Nat → Prop) : Step D D w w' :=
  ⟨h.2.2.os, h.2.2.tape, h.2.2.output, h.2.2.size, fun k hk _ => h.2.2.block k hk, fun _ h => .inl h⟩
theorem Fresh.disk {w w' : World} {r : Value} {bs : List UInt8} (h : Fresh w w' r bs) (hd : DiskIs w p D v A) : DiskIs w' p D v A :=
  hd.kept h.2.2.size fun k hk => h.2.2.block k (hd.lt k hk)
theorem Fresh.not {w w' : World} {r : Value} {bs : List UInt8} (h : Fresh w w' r bs) (hd : DiskIs w p D v A) : ∀ k, r.ownBlock = some k → ¬ D k := fun k hk hD => by
  have := hd.lt k hD; have := (h.2.1 k hk).1; omega
theorem Fresh.none (w : World) : Fresh w w (.slice none 0 0) [] := ⟨.inl ⟨rfl, rfl⟩, fun _ hk => (nomatch hk), Below.refl _ _⟩

theorem DiskIs.len (h : DiskIs w p D v A) (i : Nat) (hi : i < 2) : (A.x i).length ≤ 1048576 := by
  have := h.ok.room; have := h.ok.cap
  rcases (show i = 0 ∨ i = 1 by omega) with rfl | rfl <;> omega

set_option maxHeartbeats 400000 in
theorem read_ok (h : DiskIs w p D v A) (hd : A.dead = false) (i : Nat) (hi : i < 2) : Calls Try.prog 24 #[.pointer (some ⟨p, 0, none⟩), .int .i64 i] w fun e w' => ∃ r, e = .returned r ∧ Fresh w w' r (A.x i) := by
  have hl := h.len i hi
  have hb := bytes_of_owns (h.row i hi)
  have hdat := h.dat i hi
  have HD := hide h
  have HB := hide hb
  have hi0 : (0 : Int) ≤ (i : Int) := by omega
  have hi2 : (i : Int) < 2 := by omega
  have e1 : 2 + i * 2 = 2 + 2 * i := by omega
  clear h hb
  go_enter Try.func24, Try.ntmps24
  go_wp2_with (first
    | (go_at_call 33; refine (fault_alive (unhide HD) hd).mono ?_; rintro e w' ⟨rfl, rfl⟩)
    | (go_at_call 57; refine (isSegment_yes _ _ (by omega) (by omega)).mono ?_; rintro e w' ⟨rfl, rfl⟩)
    | (go_at_call 63; refine (clone_any _ (A.x i) _ (unhide HB) hl).mono ?_; rintro e w' ⟨r, rfl, hF⟩))
  go_ret
  exact ⟨r, rfl, hF⟩

set_option maxHeartbeats 400000 in
theorem read_none (h : DiskIs w p D v A) (s : Int) (hs : A.dead = true ∨ s < 0 ∨ 2 ≤ s) : Calls Try.prog 24 #[.pointer (some ⟨p, 0, none⟩), .int .i64 s] w fun e w' => e = .returned (.slice none 0 0) ∧ w' = w := by
  have HD := hide h
  clear h
  cases hd : A.dead
  · have hs' : s < 0 ∨ 2 ≤ s := by simpa [hd] using hs
    have HS := hide hs'
    clear hs hs'
    go_enter Try.func24, Try.ntmps24
    go_wp2_with (first
      | (go_at_call 33; refine (fault_alive (unhide HD) hd).mono ?_; rintro e w' ⟨rfl, rfl⟩)
      | (go_at_call 57; refine (isSegment_no _ _ (unhide HS)).mono ?_; rintro e w' ⟨rfl, rfl⟩))
    go_ret
    exact ⟨rfl, rfl⟩
  · clear hs
    go_enter Try.func24, Try.ntmps24
    go_wp2_with (go_at_call 33; refine (fault_dead (unhide HD) hd).mono ?_; rintro e w' ⟨rfl, rfl⟩)
    go_ret
    exact ⟨rfl, rfl⟩

/-- With a fuse of so many calls. -/
def AD.fused (A : AD) (c k : Int) : AD := { A with calls := max c (-1), part := k }

theorem fused_eq (A : AD) (c k n : Int) (h : n = max c (-1)) : A.fused c k = { A with calls := n, part := k } := by subst h; rfl

set_option maxHeartbeats 400000 in
theorem fuse_alive (h : DiskIs w p D v A) (hd : A.dead = false) (c k : Int) (hc : c ≤ 9223372036854775807) : Calls Try.prog 11 #[.pointer (some ⟨p, 0, none⟩), .int .i64 c, .int .i64 k] w fun e w' => e = .returned (.tuple #[]) ∧ DiskIs w' p D v (A.fused c k) ∧ Step D D w w' := by
  have h1 := h.calls
  have h2 := h.part
  have f1 := h.frz 134
  have f2 := h.frz 135
  have HD := hide h
  clear h
  go_enter Try.func11, Try.ntmps11
  go_wp2_with (go_at_call 33; refine (fault_alive (unhide HD) hd).mono ?_; rintro e w' ⟨rfl, rfl⟩)
  · go_end0
    refine ⟨rfl, ?_, ((Step.refl D _).setCell (p := ⟨p, 134, none⟩) (unhide HD).own _).setCell (p := ⟨p, 135, none⟩) (unhide HD).own _⟩
    rw [fused_eq A c k (-1) (by omega)]
    exact ((unhide HD).setCalls (-1) (by omega)).setPart k
  · go_end0
    refine ⟨rfl, ?_, ((Step.refl D _).setCell (p := ⟨p, 134, none⟩) (unhide HD).own _).setCell (p := ⟨p, 135, none⟩) (unhide HD).own _⟩
    rw [fused_eq A c k c (by omega)]
    exact ((unhide HD).setCalls c (by omega)).setPart k

set_option maxHeartbeats 400000 in
theorem fuse_dead (h : DiskIs w p D v A) (hd : A.dead = true) (c k : Int) : Calls Try.prog 11 #[.pointer (some ⟨p, 0, none⟩), .int .i64 c, .int .i64 k] w fun e w' => e = .returned (.tuple #[]) ∧ w' = w := by
  have HD := hide h
  clear h
  go_enter Try.func11, Try.ntmps11
  go_wp2_with (go_at_call 33; refine (fault_dead (unhide HD) hd).mono ?_; rintro e w' ⟨rfl, rfl⟩)
  first | go_end0 | (refine bodyPost_ret (v := .tuple #[]) (by simp [results, Try.results11, go_sem]) rfl ?_)
  exact ⟨rfl, rfl⟩

/-- A new disk. -/
def AD.new (c : Int) : AD := { cap := c, x := fun _ => [], safe := fun _ => 0, sf := fun _ => List.replicate 32 0, sh := fun _ => List.replicate 32 0, calls := -1, part := 0, dead := false }

set_option maxHeartbeats 400000 in
theorem new_arg (c : Int) (hc : c < 0 ∨ 1048576 < c) (w : World) : Calls Try.prog 31 #[.int .i64 c] w fun e w' => e = .returned (.tuple #[.pointer none, .int .i64 2]) ∧ w' = w := by
  rcases hc with hc | hc
  · go_enter Try.func31, Try.ntmps31
    go_wp2
    go_ret2
    exact ⟨rfl, rfl⟩
  · have h0 : ¬ c < 0 := by omega
    go_enter Try.func31, Try.ntmps31
    go_wp2
    go_ret2
    exact ⟨rfl, rfl⟩

/-- A disk of zeros. -/
def zDisk : Array Value := #[.pointer none, .int .i64 0, .slice none 0 0, .int .i64 0, .slice none 0 0, .int .i64 0] ++ Array.replicate 128 (.int .u8 0) ++ #[.int .i64 0, .int .i64 0, .bool false]
theorem infoZero : (Try.prog.info? 79).map (·.zero) = some (some (.agg zDisk)) := by kernel_rfl
theorem run_zeroDisk (w : World) : (zeroValue 79).run Try.prog w = .ok (.agg zDisk) w := by
  obtain ⟨i, hi, hz⟩ := Option.map_eq_some_iff.1 infoZero
  simp [zeroValue, typeInfo, hi, hz]
theorem size_zDisk : zDisk.size = 137 := by decide +kernel

theorem zDisk_slots (j : Nat) (h : j < 128) : zDisk[6 + j]? = some (.int .u8 0) := by
  unfold zDisk
  rw [Array.getElem?_append_left (by simp; omega), Array.getElem?_append_right (by simp), Array.getElem?_replicate]
  simp; omega

theorem newDisk_is (w : World) (c : Int) (h0 : 0 ≤ c) (h1 : c ≤ 1048576) (C : Array Value) (hC : C = (((zDisk.setIfInBounds 1 (.int .i64 c)).setIfInBounds 134 (.int .i64 (-1))).setIfInBounds 135 (.int .i64 0)).setIfInBounds 0 (.pointer (some ⟨w.heap.size, 0, none⟩))) :
    DiskIs (w.alloc (.cells C 79)) w.heap.size (fun k => k = w.heap.size) (fun _ => .slice none 0 0) (AD.new c) := by
  have hb : (w.alloc (.cells C 79)).heap[w.heap.size]? = some (.cells C 79 (0, 0)) := heap_alloc_new w _
  have hc : ∀ j, (w.alloc (.cells C 79)).cell? ⟨w.heap.size, j, none⟩ = C[j]? := fun j => cell_of_row _ _ j C _ _ hb
  have hlit : ∀ j : Nat, j ≠ 0 → j ≠ 1 → j ≠ 134 → j ≠ 135 → C[j]? = zDisk[j]? := fun j x a b d => by
    rw [hC, Array.getElem?_setIfInBounds_ne (by omega), Array.getElem?_setIfInBounds_ne (by omega), Array.getElem?_setIfInBounds_ne (by omega), Array.getElem?_setIfInBounds_ne (by omega)]
  have hsl : ∀ o, 6 ≤ o → o + 32 ≤ 134 → (w.alloc (.cells C 79)).rangeAt w.heap.size o ((List.replicate 32 (0 : UInt8)).map bv) := fun o ho1 ho2 j u hu => by
    have hj : j < 32 := by have := (List.getElem?_eq_some_iff.1 hu).1; simpa using this
    have hu' : u = .int .u8 0 := by
      rw [List.map_replicate, List.getElem?_replicate, if_pos hj] at hu
      cases hu; rfl
    rw [hc, hu', hlit _ (by omega) (by omega) (by omega) (by omega), show o + j = 6 + (o + j - 6) by omega]
    exact zDisk_slots _ (by omega)
  refine ⟨⟨C, hb⟩, ?_, ?_, ?_, ?_, fun i hi => hsl _ (by omega) (by omega), fun i hi => hsl _ (by omega) (by omega), ?_, ?_, ?_, fun i _ => World.ownsRow_nil _ _ _ _, rfl, fun i k _ hk => (nomatch hk), fun k hk => (nomatch hk), fun k hk => ?_, ⟨fun i _ => Nat.le_refl _, ?_, h1, fun i _ => rfl, fun i _ => rfl, by show (-1 : Int) ≤ -1 ∧ (-1 : Int) ≤ 9223372036854775807; omega⟩⟩
  · rw [hc, hC, Array.getElem?_setIfInBounds_self_of_lt (by simp [size_zDisk])]
  · rw [hc, hC, Array.getElem?_setIfInBounds_ne (by omega), Array.getElem?_setIfInBounds_ne (by omega), Array.getElem?_setIfInBounds_ne (by omega), Array.getElem?_setIfInBounds_self_of_lt (by rw [size_zDisk]; omega)]
    rfl
  · intro i hi
    rw [hc, hlit _ (by omega) (by omega) (by omega) (by omega)]
    rcases (show i = 0 ∨ i = 1 by omega) with rfl | rfl <;> kernel_rfl
  · intro i hi
    rw [hc, hlit _ (by omega) (by omega) (by omega) (by omega)]
    rcases (show i = 0 ∨ i = 1 by omega) with rfl | rfl <;> kernel_rfl
  · rw [hc, hC, Array.getElem?_setIfInBounds_ne (by omega), Array.getElem?_setIfInBounds_ne (by omega), Array.getElem?_setIfInBounds_self_of_lt (by simp [size_zDisk])]
    rfl
  · rw [hc, hC, Array.getElem?_setIfInBounds_ne (by omega), Array.getElem?_setIfInBounds_self_of_lt (by simp [size_zDisk])]
    rfl
  · rw [hc, hlit _ (by omega) (by omega) (by omega) (by omega)]
    kernel_rfl
  · subst hk; simp
  · show ((0 : Nat) : Int) + ((0 : Nat) : Int) ≤ c; omega

set_option maxRecDepth 100000 in
set_option maxHeartbeats 1000000 in
theorem new_ok (c : Int) (h0 : 0 ≤ c) (h1 : c ≤ 1048576) (w : World) : Calls Try.prog 31 #[.int .i64 c] w fun e w' => e = .returned (.tuple #[.pointer (some ⟨w.heap.size, 0, none⟩), .int .i64 0]) ∧
    DiskIs w' w.heap.size (fun k => k = w.heap.size) (fun _ => .slice none 0 0) (AD.new c) ∧ w'.heap.size = w.heap.size + 1 ∧ Below w.heap.size w w' := by
  have h0' : ¬ c < 0 := by omega
  have h1' : ¬ 1048576 < c := by omega
  have hN := newDisk_is w c h0 h1
  have hz := run_zeroDisk
  have hs := size_zDisk
  have hp0 : ∀ C, C = ((zDisk.setIfInBounds 1 (.int .i64 c)).setIfInBounds 134 (.int .i64 (-1))).setIfInBounds 135 (.int .i64 0) → (w.alloc (.cells C 79)).cell? ⟨w.heap.size, 0, none⟩ = some (.pointer none) := fun C hC => by
    rw [cell_of_row _ _ 0 C _ _ (heap_alloc_new w _), hC, Array.getElem?_setIfInBounds_ne (by omega), Array.getElem?_setIfInBounds_ne (by omega), Array.getElem?_setIfInBounds_ne (by omega)]
    rfl
  have hp := hp0 _ rfl
  have HN := hide (hN _ rfl)
  clear hN hp0
  generalize zDisk = Z at *
  go_enter Try.func31, Try.ntmps31
  go_wp2
  go_ret2
  exact ⟨rfl, unhide HN, by simp, (Below.refl _ _).alloc (Nat.le_refl _) _⟩
end
end Go.Proofs.Ytflfiobicapopaa

namespace Go.Proofs.Ytflfiobicapopaa
open Go.RowKit

section
variable {w : World} {p : Nat} {D : Nat → Prop} {v : Nat → Value} {A : AD}

/-- All of segment i is safe. -/
def AD.synced (A : AD) (i : Nat) : AD := { A with safe := upd A.safe i (A.x i).length }

theorem segSync_now (h : DiskIs w p D v A) (i : Nat) (hi : i < 2) : Calls Try.prog 73 #[.pointer (some ⟨p, 2 + 2 * i, none⟩)] w fun e w' => e = .returned (.tuple #[]) ∧ DiskIs w' p D v (A.synced i) ∧ Step D D w w' :=
  (segSync_any h i hi).mono fun _ _ ⟨he, hw⟩ => ⟨he, hw ▸ h.setSafe i hi _ (Nat.le_refl _), hw ▸ (Step.refl D w).setCell (p := ⟨p, 3 + 2 * i, none⟩) h.own _⟩

set_option maxHeartbeats 400000 in
theorem syncLit_any (h : DiskIs w p D v A) (i : Nat) (hi : i < 2) (b1 b2 : Nat) (c1 : w.cell? ⟨b1, 0, none⟩ = some (.pointer (some ⟨p, 0, none⟩))) (c2 : w.cell? ⟨b2, 0, none⟩ = some (.int .i64 i)) (n1 : ¬ D b1) (n2 : ¬ D b2) :
    Calls Try.prog 72 #[.pointer (some ⟨b1, 0, none⟩), .pointer (some ⟨b2, 0, none⟩)] w fun e w' => e = .returned (.tuple #[]) ∧ Now D p (A.synced i) w w' := by
  have HD := hide h
  clear h
  have hi0 : (0 : Int) ≤ (i : Int) := by omega
  have hi2 : (i : Int) < 2 := by omega
  have e1 : 2 + i * 2 = 2 + 2 * i := by omega
  go_enter Try.func72, Try.ntmps72
  go_wp2
  go_region_held3 (fun w' => w'.cell? ⟨b1, 0, none⟩ = some (.pointer (some ⟨p, 0, none⟩)) ∧ w'.cell? ⟨b2, 0, none⟩ = some (.int .i64 i)) (go_keep)
    (first
      | (go_at_call 73; refine (segSync_now ((unhide HD).drewN _) i hi).mono ?_; rintro e w' ⟨rfl, hD3, hS3⟩; have q1 := hS3.cell (p := ⟨b1, 0, none⟩) c1 n1; have q2 := hS3.cell (p := ⟨b2, 0, none⟩) c2 n2))
  go_wp2
  go_end0
  exact ⟨rfl, D, v, hD3, ((Step.refl D w).drewN _).trans hS3⟩

theorem entersSync (args : Array Value) (w : World) : (callFunc 72 args).run Try.prog w = .ok (.enter 72 args) w := enters_fn Try.func72 (by kernel_rfl) rfl args w

theorem sync_change (h : DiskIs w p D v A) (hc : A.calls ≠ 0) (i : Nat) (hi : i < 2) (b1 b2 : Nat) (c1 : w.cell? ⟨b1, 0, none⟩ = some (.pointer (some ⟨p, 0, none⟩))) (c2 : w.cell? ⟨b2, 0, none⟩ = some (.int .i64 i)) (n1 : ¬ D b1) (n2 : ¬ D b2) :
    Calls Try.prog 59 #[.pointer (some ⟨p, 0, none⟩), .func (.func 72) #[] #[.pointer (some ⟨b1, 0, none⟩), .pointer (some ⟨b2, 0, none⟩)]] w fun e w' => e = .returned (.int .i64 0) ∧ Now D p (A.tick.synced i) w w' :=
  change_do h hc _ _ (entersSync _) (Now D p (A.tick.synced i) w) (fun _ h1 s1 =>
    (syncLit_any h1 i hi b1 b2 (s1.cell c1 n1) (s1.cell c2 n2) n1 n2).mono fun _ _ ⟨he, hN⟩ => ⟨he, Now.after s1 hN⟩)

theorem two_boxes0 (w : World) (x y : Value) (t s : TypeId) : ((w.alloc (.cells #[x] t)).alloc (.cells #[y] s)).cell? ⟨w.heap.size, 0, none⟩ = some x ∧ ((w.alloc (.cells #[x] t)).alloc (.cells #[y] s)).cell? ⟨w.heap.size + 1, 0, none⟩ = some y := two_boxes w x y t s 0

set_option maxHeartbeats 400000 in
theorem sync_ok (h : DiskIs w p D v A) (hd : A.dead = false) (hc : A.calls ≠ 0) (i : Nat) (hi : i < 2) : Calls Try.prog 40 #[.pointer (some ⟨p, 0, none⟩), .int .i64 i] w fun e w' => e = .returned (.int .i64 0) ∧ Now D p (A.tick.synced i) w w' := by
  have HD := hide h
  clear h
  have hmk := makes
  go_enter Try.func40, Try.ntmps40
  go_wp2_with (first
    | (go_at_call 33; refine (fault_alive (((unhide HD).alloc _).alloc _) hd).mono ?_; rintro e w' ⟨rfl, rfl⟩)
    | (go_at_call 57; refine (isSegment_yes _ _ (by omega) (by omega)).mono ?_; rintro e w' ⟨rfl, rfl⟩)
    | (go_at_call 59; refine (sync_change (((unhide HD).alloc _).alloc _) hc i hi w.heap.size (w.heap.size + 1) (two_boxes0 w _ _ _ _).1 (two_boxes0 w _ _ _ _).2 ((unhide HD).fresh _ (by omega)) ((unhide HD).fresh _ (by omega))).mono ?_; rintro e w' ⟨rfl, hN⟩))
  go_ret
  exact ⟨rfl, Now.after (((Step.refl D w).alloc _).alloc _) hN⟩

set_option maxHeartbeats 400000 in
theorem sync_kill (h : DiskIs w p D v A) (hd : A.dead = false) (hc : A.calls = 0) (i : Nat) (hi : i < 2) : Calls Try.prog 40 #[.pointer (some ⟨p, 0, none⟩), .int .i64 i] w fun e w' => e = .returned (.int .i64 3) ∧ Now D p { A with dead := true } w w' := by
  have HD := hide h
  clear h
  have HC := hide hc
  clear hc
  have hmk := makes
  go_enter Try.func40, Try.ntmps40
  go_wp2_with (first
    | (go_at_call 33; refine (fault_alive (((unhide HD).alloc _).alloc _) hd).mono ?_; rintro e w' ⟨rfl, rfl⟩)
    | (go_at_call 57; refine (isSegment_yes _ _ (by omega) (by omega)).mono ?_; rintro e w' ⟨rfl, rfl⟩)
    | (go_at_call 59; refine (change_kill (((unhide HD).alloc _).alloc _) (unhide HC) _).mono ?_; rintro e w' ⟨rfl, hD2, hS2⟩))
  go_ret
  exact ⟨rfl, D, v, hD2, (((Step.refl D w).alloc _).alloc _).trans hS2⟩

set_option maxHeartbeats 400000 in
theorem sync_arg (h : DiskIs w p D v A) (hd : A.dead = false) (s : Int) (hs : s < 0 ∨ 2 ≤ s) : Calls Try.prog 40 #[.pointer (some ⟨p, 0, none⟩), .int .i64 s] w fun e w' => e = .returned (.int .i64 2) ∧ Now D p A w w' := by
  have HD := hide h
  clear h
  have HS := hide hs
  clear hs
  go_enter Try.func40, Try.ntmps40
  go_wp2_with (first
    | (go_at_call 33; refine (fault_alive (((unhide HD).alloc _).alloc _) hd).mono ?_; rintro e w' ⟨rfl, rfl⟩)
    | (go_at_call 57; refine (isSegment_no _ _ (unhide HS)).mono ?_; rintro e w' ⟨rfl, rfl⟩))
  go_ret
  exact ⟨rfl, D, v, ((unhide HD).alloc _).alloc _, ((Step.refl D w).alloc _).alloc _⟩

set_option maxHeartbeats 400000 in
theorem sync_dead (h : DiskIs w p D v A) (hd : A.dead = true) (s : Int) : Calls Try.prog 40 #[.pointer (some ⟨p, 0, none⟩), .int .i64 s] w fun e w' => e = .returned (.int .i64 3) ∧ Now D p A w w' := by
  have HD := hide h
  clear h
  go_enter Try.func40, Try.ntmps40
  go_wp2_with (go_at_call 33; refine (fault_dead (((unhide HD).alloc _).alloc _) hd).mono ?_; rintro e w' ⟨rfl, rfl⟩)
  go_ret
  exact ⟨rfl, D, v, ((unhide HD).alloc _).alloc _, ((Step.refl D w).alloc _).alloc _⟩

/-- Behind a crash. -/
def AD.crashed (A : AD) (k : Nat → Int) : AD := { ((((A.crashSeg 0 (k 0)).crashSeg 1 (k 1)).crashSlot 0 (k 2)).crashSlot 1 (k 3)) with calls := -1, part := 0, dead := false }
end
end Go.Proofs.Ytflfiobicapopaa

namespace Go.Proofs.Ytflfiobicapopaa
open Go.RowKit

section
variable {w : World} {p : Nat} {D : Nat → Prop} {v : Nat → Value} {A : AD}

theorem Step.notOwn {D E : Nat → Prop} {a b : World} (h : Step D E a b) {k : Nat} (hk : k < a.heap.size) (hn : ¬ D k) : ¬ E k := fun hx => (h.own k hx).elim hn (fun h2 => by omega)

theorem segCrash0 (h : DiskIs w p D v A) (k : Int) : Calls Try.prog 48 #[.pointer (some ⟨p, 2, none⟩), .int .i64 k] w fun e w' => e = .returned (.tuple #[]) ∧ Now D p (A.crashSeg 0 k) w w' := segCrash_any h 0 (by omega) k
theorem segCrash1 (h : DiskIs w p D v A) (k : Int) : Calls Try.prog 48 #[.pointer (some ⟨p, 4, none⟩), .int .i64 k] w fun e w' => e = .returned (.tuple #[]) ∧ Now D p (A.crashSeg 1 k) w w' := segCrash_any h 1 (by omega) k
theorem slotCrash0 (h : DiskIs w p D v A) (k : Int) : Calls Try.prog 49 #[.pointer (some ⟨p, 6, none⟩), .int .i64 k] w fun e w' => e = .returned (.tuple #[]) ∧ Now D p (A.crashSlot 0 k) w w' := slotCrash_any h 0 (by omega) k
theorem slotCrash1 (h : DiskIs w p D v A) (k : Int) : Calls Try.prog 49 #[.pointer (some ⟨p, 70, none⟩), .int .i64 k] w fun e w' => e = .returned (.tuple #[]) ∧ Now D p (A.crashSlot 1 k) w w' := slotCrash_any h 1 (by omega) k

theorem four_cells (w : World) (a b c d : Value) (t : TypeId) : (w.alloc (.cells #[a, b, c, d] t)).cell? ⟨w.heap.size, 0, none⟩ = some a ∧ (w.alloc (.cells #[a, b, c, d] t)).cell? ⟨w.heap.size, 1, none⟩ = some b ∧
    (w.alloc (.cells #[a, b, c, d] t)).cell? ⟨w.heap.size, 2, none⟩ = some c ∧ (w.alloc (.cells #[a, b, c, d] t)).cell? ⟨w.heap.size, 3, none⟩ = some d := by
  have h : (w.alloc (.cells #[a, b, c, d] t)).heap[w.heap.size]? = some (.cells #[a, b, c, d] t (0, 0)) := heap_alloc_new w _
  exact ⟨cell_of_row _ _ 0 _ _ _ h, cell_of_row _ _ 1 _ _ _ h, cell_of_row _ _ 2 _ _ _ h, cell_of_row _ _ 3 _ _ _ h⟩

set_option maxHeartbeats 1000000 in
theorem crash_any (h : DiskIs w p D v A) (k : Nat → Int) : Calls Try.prog 16 #[.pointer (some ⟨p, 0, none⟩), .agg #[.int .i64 (k 0), .int .i64 (k 1), .int .i64 (k 2), .int .i64 (k 3)]] w fun e w' => e = .returned (.tuple #[]) ∧ Now D p (A.crashed k) w w' := by
  obtain ⟨c0, c1, c2, c3⟩ := four_cells w (.int .i64 (k 0)) (.int .i64 (k 1)) (.int .i64 (k 2)) (.int .i64 (k 3)) 24
  have n0 : ¬ D w.heap.size := h.fresh _ (by omega)
  have HD := hide (h.alloc (.cells #[.int .i64 (k 0), .int .i64 (k 1), .int .i64 (k 2), .int .i64 (k 3)] 24))
  have HS : Hid (Step D D w (w.alloc (.cells #[.int .i64 (k 0), .int .i64 (k 1), .int .i64 (k 2), .int .i64 (k 3)] 24))) := (Step.refl D w).alloc _
  clear h
  have a0 : IntKind.i64.wrap 2 = 2 := by decide
  have a1 : IntKind.i64.wrap 3 = 3 := by decide
  have a2 : IntKind.i64.wrap (2 + 0) = 2 := by decide
  have a3 : IntKind.i64.wrap (2 + 1) = 3 := by decide
  go_enter Try.func16, Try.ntmps16
  go_wp2_with (go_at_call 47; refine (made_yes (unhide HD)).mono ?_; rintro e w' ⟨rfl, rfl⟩)
  refine wp_loop_rounds 3 ?_
  rw [rounds_succ]; go_wp2
  go_region_held3 (fun w' => w'.cell? ⟨w.heap.size, 0, none⟩ = some (.int .i64 (k 0)) ∧ w'.cell? ⟨w.heap.size, 1, none⟩ = some (.int .i64 (k 1)) ∧ w'.cell? ⟨w.heap.size, 2, none⟩ = some (.int .i64 (k 2)) ∧ w'.cell? ⟨w.heap.size, 3, none⟩ = some (.int .i64 (k 3))) (go_keep)
    (first | (go_at_call 48; refine (segCrash0 ((unhide HD).drewN _) _).mono ?_; rintro e w1 ⟨rfl, D1, v1, hD1, hS1⟩; have q10 := hS1.cell (p := ⟨w.heap.size, 0, none⟩) c0 n0; have q11 := hS1.cell (p := ⟨w.heap.size, 1, none⟩) c1 n0; have q12 := hS1.cell (p := ⟨w.heap.size, 2, none⟩) c2 n0; have q13 := hS1.cell (p := ⟨w.heap.size, 3, none⟩) c3 n0))
  have n1 : ¬ D1 w.heap.size := hS1.notOwn (World.block_lt_of_cell? _ ⟨w.heap.size, 0, none⟩ c0) n0
  have HD1 := hide hD1
  have HS1 := hide hS1
  clear hD1 hS1
  clear c0 c1 c2 c3
  go_wp2
  rw [rounds_succ]; go_wp2
  go_region_held3 (fun w' => w'.cell? ⟨w.heap.size, 0, none⟩ = some (.int .i64 (k 0)) ∧ w'.cell? ⟨w.heap.size, 1, none⟩ = some (.int .i64 (k 1)) ∧ w'.cell? ⟨w.heap.size, 2, none⟩ = some (.int .i64 (k 2)) ∧ w'.cell? ⟨w.heap.size, 3, none⟩ = some (.int .i64 (k 3))) (go_keep)
    (first | (go_at_call 48; refine (segCrash1 ((unhide HD1).drewN _) _).mono ?_; rintro e w2 ⟨rfl, D2, v2, hD2, hS2⟩; have q20 := hS2.cell (p := ⟨w.heap.size, 0, none⟩) q10 n1; have q21 := hS2.cell (p := ⟨w.heap.size, 1, none⟩) q11 n1; have q22 := hS2.cell (p := ⟨w.heap.size, 2, none⟩) q12 n1; have q23 := hS2.cell (p := ⟨w.heap.size, 3, none⟩) q13 n1))
  have n2 : ¬ D2 w.heap.size := hS2.notOwn (World.block_lt_of_cell? _ ⟨w.heap.size, 0, none⟩ q10) n1
  have HD2 := hide hD2
  have HS2 := hide hS2
  clear hD2 hS2
  clear q10 q11 q12 q13
  go_wp2
  rw [rounds_succ]; go_wp2
  refine wp_loop_rounds 3 ?_
  rw [rounds_succ]; go_wp2
  go_region_held3 (fun w' => w'.cell? ⟨w.heap.size, 0, none⟩ = some (.int .i64 (k 0)) ∧ w'.cell? ⟨w.heap.size, 1, none⟩ = some (.int .i64 (k 1)) ∧ w'.cell? ⟨w.heap.size, 2, none⟩ = some (.int .i64 (k 2)) ∧ w'.cell? ⟨w.heap.size, 3, none⟩ = some (.int .i64 (k 3))) (go_keep)
    (first | (go_at_call 49; refine (slotCrash0 ((unhide HD2).drewN _) _).mono ?_; rintro e w3 ⟨rfl, D3, v3, hD3, hS3⟩; have q30 := hS3.cell (p := ⟨w.heap.size, 0, none⟩) q20 n2; have q31 := hS3.cell (p := ⟨w.heap.size, 1, none⟩) q21 n2; have q32 := hS3.cell (p := ⟨w.heap.size, 2, none⟩) q22 n2; have q33 := hS3.cell (p := ⟨w.heap.size, 3, none⟩) q23 n2))
  have n3 : ¬ D3 w.heap.size := hS3.notOwn (World.block_lt_of_cell? _ ⟨w.heap.size, 0, none⟩ q20) n2
  have HD3 := hide hD3
  have HS3 := hide hS3
  clear hD3 hS3
  clear q20 q21 q22 q23
  go_wp2
  rw [rounds_succ]; go_wp2
  go_region_held3 (fun w' => w'.cell? ⟨w.heap.size, 0, none⟩ = some (.int .i64 (k 0)) ∧ w'.cell? ⟨w.heap.size, 1, none⟩ = some (.int .i64 (k 1)) ∧ w'.cell? ⟨w.heap.size, 2, none⟩ = some (.int .i64 (k 2)) ∧ w'.cell? ⟨w.heap.size, 3, none⟩ = some (.int .i64 (k 3))) (go_keep)
    (first | (go_at_call 49; refine (slotCrash1 ((unhide HD3).drewN _) _).mono ?_; rintro e w4 ⟨rfl, D4, v4, hD4, hS4⟩; have q40 := hS4.cell (p := ⟨w.heap.size, 0, none⟩) q30 n3; have q41 := hS4.cell (p := ⟨w.heap.size, 1, none⟩) q31 n3; have q42 := hS4.cell (p := ⟨w.heap.size, 2, none⟩) q32 n3; have q43 := hS4.cell (p := ⟨w.heap.size, 3, none⟩) q33 n3))
  have n4 : ¬ D4 w.heap.size := hS4.notOwn (World.block_lt_of_cell? _ ⟨w.heap.size, 0, none⟩ q30) n3
  have HD4 := hide hD4
  have HS4 := hide hS4
  clear hD4 hS4
  clear q30 q31 q32 q33 q40 q41 q42 q43
  have g1 := (unhide HD4).calls
  have g2 := (unhide HD4).part
  have g3 := (unhide HD4).dead
  have f1 := (unhide HD4).frz 134
  have f2 := (unhide HD4).frz 135
  have f3 := (unhide HD4).frz 136
  go_wp2
  rw [rounds_succ]; go_wp2
  go_end0
  refine ⟨rfl, D4, v4, (((unhide HD4).setCalls (-1) (by omega)).setPart 0).setDead false, ?_⟩
  have hs := (((((((unhide HS).drewN 1).trans (unhide HS1)).drewN 1).trans (unhide HS2)).drewN 1).trans (unhide HS3)).drewN 1 |>.trans (unhide HS4)
  exact ((hs.setCell (p := ⟨p, 134, none⟩) (unhide HD4).own _).setCell (p := ⟨p, 135, none⟩) (unhide HD4).own _).setCell (p := ⟨p, 136, none⟩) (unhide HD4).own _
end
end Go.Proofs.Ytflfiobicapopaa

namespace Go.Proofs.Ytflfiobicapopaa
open Go.RowKit

/-- Four numbers by their places. -/
def kp (a b c d : Int) : Nat → Int
  | 0 => a
  | 1 => b
  | 2 => c
  | _ => d

theorem crash4 {w : World} {p : Nat} {D : Nat → Prop} {v : Nat → Value} {A : AD} (h : DiskIs w p D v A) (a b c d : Int) : Calls Try.prog 16 #[.pointer (some ⟨p, 0, none⟩), .agg #[.int .i64 a, .int .i64 b, .int .i64 c, .int .i64 d]] w fun e w' => e = .returned (.tuple #[]) ∧ Now D p (A.crashed (kp a b c d)) w w' := crash_any h (kp a b c d)

theorem three_boxes (w : World) (x y z : Value) (t s r : TypeId) : (((w.alloc (.cells #[x] t)).alloc (.cells #[y] s)).alloc (.cells #[z] r)).cell? ⟨w.heap.size, 0, none⟩ = some x ∧ (((w.alloc (.cells #[x] t)).alloc (.cells #[y] s)).alloc (.cells #[z] r)).cell? ⟨w.heap.size + 1, 0, none⟩ = some y ∧ (((w.alloc (.cells #[x] t)).alloc (.cells #[y] s)).alloc (.cells #[z] r)).cell? ⟨w.heap.size + 2, 0, none⟩ = some z := by
  have h1 : (((w.alloc (.cells #[x] t)).alloc (.cells #[y] s)).alloc (.cells #[z] r)).heap[w.heap.size]? = some (.cells #[x] t (0, 0)) := by
    rw [Below.heap_alloc _ _ _ (by simp; omega), Below.heap_alloc _ _ _ (by simp)]; exact heap_alloc_new w _
  have h2 : (((w.alloc (.cells #[x] t)).alloc (.cells #[y] s)).alloc (.cells #[z] r)).heap[w.heap.size + 1]? = some (.cells #[y] s (0, 0)) := by
    rw [Below.heap_alloc _ _ _ (by simp)]
    have := heap_alloc_new (w.alloc (.cells #[x] t)) (.cells #[y] s)
    have e : (w.alloc (.cells #[x] t)).heap.size = w.heap.size + 1 := by simp
    rw [e] at this; exact this
  have h3 : (((w.alloc (.cells #[x] t)).alloc (.cells #[y] s)).alloc (.cells #[z] r)).heap[w.heap.size + 2]? = some (.cells #[z] r (0, 0)) := by
    have := heap_alloc_new ((w.alloc (.cells #[x] t)).alloc (.cells #[y] s)) (.cells #[z] r)
    have e : ((w.alloc (.cells #[x] t)).alloc (.cells #[y] s)).heap.size = w.heap.size + 2 := by simp
    rw [e] at this; exact this
  exact ⟨cell_of_row _ _ 0 _ _ _ h1, cell_of_row _ _ 0 _ _ _ h2, cell_of_row _ _ 0 _ _ _ h3⟩

theorem lit_bytes (w : World) (cs : Array Value) (n : Nat) (bs : List UInt8) (hn : n = bs.length) (hm : bs.length ≤ 1048576) (hc : cs = (bs.map bv).toArray) : Bytes (w.alloc (.cells cs 5)) (.slice (some ⟨w.heap.size, 0, none⟩) n n) bs := by
  subst hc hn
  refine .inr ⟨⟨w.heap.size, 0, none⟩, bs.length, rfl, Nat.le_refl _, by unfold maxLen; omega, fun j u hu => ?_⟩
  rw [Addr.add_mid, Nat.zero_add, cell_of_row _ _ _ _ _ _ (heap_alloc_new w _)]
  simpa using hu

def S0 : AD := AD.new 10
def S1 : AD := { S0.tick with x := upd S0.x 0 (S0.x 0 ++ [1, 2, 3]) }
def S2 : AD := S1.tick.synced 0
def S3 : AD := { S2.tick with x := upd S2.x 0 (S2.x 0 ++ [4, 5]) }
def S4 : AD := S3.crashed (kp 1 0 0 0)
def S5 : AD := S4.fused 1 2
def S6 : AD := { S5.tick with x := upd S5.x 1 (S5.x 1 ++ [7]) }
def S7 : AD := S6.killed 1 [8, 9, 9]
def S8 : AD := S7.crashed (kp 9 9 0 0)

theorem free5 : S3.cap - (S3.x 0).length - (S3.x 1).length = 5 := by decide +kernel
theorem free6 : S4.cap - (S4.x 0).length - (S4.x 1).length = 6 := by decide +kernel
theorem free3 : S8.cap - (S8.x 0).length - (S8.x 1).length = 3 := by decide +kernel
theorem read4 : S4.x 0 = [1, 2, 3, 4] := by decide +kernel
theorem read8 : S8.x 1 = [7, 8, 9] := by decide +kernel


theorem Step.fresh {D E : Nat → Prop} {a b : World} (h : Step D E a b) (w : World) {r : Value} {bs : List UInt8} (hf : Fresh b w r bs) : Step D E a w := h.trans (hf.step E)

section
variable {w : World} {p : Nat} {D : Nat → Prop} {v : Nat → Value} {A : AD}
theorem append_ok0 (h : DiskIs w p D v A) (hd : A.dead = false) (hc : A.calls ≠ 0) (u : Value) (bs : List UInt8) (hu : Bytes w u bs) (hn : bs ≠ [] → ∀ k, u.ownBlock = some k → ¬ D k) (hroom : ((A.x 0).length : Int) + (A.x 1).length + bs.length ≤ A.cap) :
    Calls Try.prog 23 #[.pointer (some ⟨p, 0, none⟩), .int .i64 0, u] w fun e w' => e = .returned (.int .i64 0) ∧ Now D p { A.tick with x := upd A.x 0 (A.x 0 ++ bs) } w w' := append_ok h hd hc 0 (by omega) u bs hu hn hroom
theorem append_ok1 (h : DiskIs w p D v A) (hd : A.dead = false) (hc : A.calls ≠ 0) (u : Value) (bs : List UInt8) (hu : Bytes w u bs) (hn : bs ≠ [] → ∀ k, u.ownBlock = some k → ¬ D k) (hroom : ((A.x 0).length : Int) + (A.x 1).length + bs.length ≤ A.cap) :
    Calls Try.prog 23 #[.pointer (some ⟨p, 0, none⟩), .int .i64 1, u] w fun e w' => e = .returned (.int .i64 0) ∧ Now D p { A.tick with x := upd A.x 1 (A.x 1 ++ bs) } w w' := append_ok h hd hc 1 (by omega) u bs hu hn hroom
theorem append_kill1 (h : DiskIs w p D v A) (hd : A.dead = false) (hc : A.calls = 0) (u : Value) (bs : List UInt8) (hu : Bytes w u bs) (hn : bs ≠ [] → ∀ k, u.ownBlock = some k → ¬ D k) (hroom : ((A.x 0).length : Int) + (A.x 1).length + bs.length ≤ A.cap) :
    Calls Try.prog 23 #[.pointer (some ⟨p, 0, none⟩), .int .i64 1, u] w fun e w' => e = .returned (.int .i64 3) ∧ Now D p (A.killed 1 bs) w w' := append_kill h hd hc 1 (by omega) u bs hu hn hroom
theorem append_full0 (h : DiskIs w p D v A) (hd : A.dead = false) (u : Value) (bs : List UInt8) (hu : Bytes w u bs) (hroom : A.cap < ((A.x 0).length : Int) + (A.x 1).length + bs.length) :
    Calls Try.prog 23 #[.pointer (some ⟨p, 0, none⟩), .int .i64 0, u] w fun e w' => e = .returned (.int .i64 5) ∧ Now D p A w w' := append_full h hd 0 (by omega) u bs hu hroom
theorem sync_ok0 (h : DiskIs w p D v A) (hd : A.dead = false) (hc : A.calls ≠ 0) : Calls Try.prog 40 #[.pointer (some ⟨p, 0, none⟩), .int .i64 0] w fun e w' => e = .returned (.int .i64 0) ∧ Now D p (A.tick.synced 0) w w' := sync_ok h hd hc 0 (by omega)
theorem read_ok0 (h : DiskIs w p D v A) (hd : A.dead = false) : Calls Try.prog 24 #[.pointer (some ⟨p, 0, none⟩), .int .i64 0] w fun e w' => ∃ r, e = .returned r ∧ Fresh w w' r (A.x 0) := read_ok h hd 0 (by omega)
theorem read_ok1 (h : DiskIs w p D v A) (hd : A.dead = false) : Calls Try.prog 24 #[.pointer (some ⟨p, 0, none⟩), .int .i64 1] w fun e w' => ∃ r, e = .returned r ∧ Fresh w w' r (A.x 1) := read_ok h hd 1 (by omega)
theorem lit_not (h : DiskIs w p D v A) (n c : Nat) {bs : List UInt8} : bs ≠ [] → ∀ k, (Value.slice (some ⟨w.heap.size, 0, none⟩) n c).ownBlock = some k → ¬ D k := fun _ k hk => by
  simp [Value.ownBlock] at hk
  exact h.fresh k (by omega)
end


end Go.Proofs.Ytflfiobicapopaa
