/- What TakeText of package wire answers. No statement of the seat is proved here. -/
import Derived.Test.YtifnjdplbdpelaaWireImplF
import Derived.Test.YtifnjdplbdpelaaGenWant
namespace Go.Proofs.Ytifnjdplbdpelaa
open Go.RowKit Go.Shelf Go.Lib

/-- min of two numbers, in one way, under a guard. -/
theorem wpList_min2_w {P : Program} {w : World} {ops : Array Oper} {rest : List Oper} {op : Oper} {a : Act} {Q : Exit → Act → World → Prop} (hgd : Region.wanted op (yielded ops a.tmps) = true) (x y : Operand) (t s : TypeId)
    (ho : op.op = .call { callee := .builtin .min, args := #[x, y], argTypes := #[t, s] }) (k k' : IntKind) (m n : Int) (hx : a.eval x = .int k m) (hy : a.eval y = .int k' n)
    (h : wpList P ops Q rest (a.put op.dst (.int k (min m n))) w) : wpList P ops Q (op :: rest) a w := by
  refine wpList_want hgd fun K hK => ?_
  have hrun : (Builtin.min_ #[t, s] op.type #[.int k m, .int k' n]).run P w = .ok (.int k (min m n)) w := by
    rw [run_min_int2]; congr 2; split <;> omega
  unfold Oper.wp
  simp [execOp, ho, resolve, invoke, builtin, hx, hy, hrun, Result.andThen]
  exact hK _ _ h

/-- What TakeText tells of bytes. -/
def TookText (a : Option Addr) (n : Nat) (bs : List UInt8) (most : Int) (e : Ending) : Prop :=
  (∃ (s : List UInt8) (k : Nat), ReadsT bs most s k ∧ e = .returned (.tuple #[.string ⟨s.toArray⟩, .slice (wcutA (wcutA a n k) (n - k) s.length) (n - k - s.length) (n - k - s.length), .int .i64 0])) ∨
  (NoText bs most ∧ e = .returned (.tuple #[.string ⟨#[]⟩, .slice none 0 0, .int .i64 30]))

set_option maxRecDepth 100000 in
set_option maxHeartbeats 2000000 in
theorem takeText_any (a : Option Addr) (n c : Nat) (bs : List UInt8) (most : Int) (w : World) (h : Bytes w (.slice a n c) bs) (hl : n ≤ 1048576) (hmost : InR most) : Calls Try.prog 12 #[.slice a n c, .int .i64 most] w fun e w' => TookText a n bs most e ∧ Below w.heap.size w w' := by
  obtain ⟨hbl, hnc⟩ := bytes_len h
  have HH := hide h
  have HBL := hide hbl
  have HL := hide hl
  have HMO := hide hmost
  clear h hbl hnc hl hmost
  go_enter Try.func12, Try.ntmps12
  go_wp2_with fail
  refine (takeNum_any a n c bs _ (unhide HH) (unhide HL)).mono ?_
  rintro e w1 ⟨ht, hb1⟩
  have HB1 := hide hb1
  clear hb1
  rcases ht with ⟨x, k, hr, rfl⟩ | ⟨hN, rfl⟩
  · have HR := hide hr
    have hkn := hr.le
    rw [unhide HBL] at hkn
    have hk0 := hr.pos
    obtain ⟨hx1, hx2⟩ := hr.inr
    have HC := hide (((unhide HH).cut hkn).laterW (unhide HB1))
    have hBS : (bs.drop k).length = n - k := by rw [List.length_drop, unhide HBL]
    have HBS := hide hBS
    obtain ⟨l, hlk⟩ : ∃ l, l = n - k := ⟨_, rfl⟩
    rw [← hlk] at HC HBS
    have HLK := hide hlk
    have hl20 : l ≤ 1048576 := by have := unhide HL; omega
    obtain ⟨aa, haa⟩ : ∃ aa, aa = wcutA a n k := ⟨_, rfl⟩
    rw [← haa] at HC
    have HAA := hide haa
    rw [← unhide HLK, ← haa]
    clear hr hkn hk0 hBS hlk haa
    by_cases hneg : x < 0
    · have hneg' : decide (x < 0) = true := decide_eq_true hneg
      go_wp2_with fail
      go_ret3
      refine ⟨.inr ⟨?_, rfl⟩, unhide HB1⟩
      exact noText_of (unhide HR) (.inl (by omega))
    · have hneg' : decide (x < 0) = false := decide_eq_false hneg
      obtain ⟨y, hy⟩ : ∃ y, y = min most ((l : Nat) : Int) := ⟨_, rfl⟩
      have HY := hide hy
      by_cases hgt : x > y
      · have hgt' : decide (x > y) = true := decide_eq_true hgt
        clear hy
        go_wp2_with (refine wpList_min2_w (by simp [Region.wanted, yielded]) (.tmp 23) (.tmp 25) 3 3 rfl _ _ _ _ rfl rfl ?_; rw [← unhide HY])
        go_wp2_with fail
        go_ret3
        refine ⟨.inr ⟨?_, rfl⟩, unhide HB1⟩
        refine noText_of (unhide HR) (.inr ?_)
        have := unhide HBL
        have := unhide HY
        have := unhide HLK
        have h3 := (unhide HR).le
        omega
      · have hgt' : decide (x > y) = false := decide_eq_false hgt
        obtain ⟨z, hz⟩ : ∃ z : Nat, x = ((z : Nat) : Int) := ⟨x.toNat, by omega⟩
        subst hz
        have hzl : z ≤ l := by omega
        have hzm : ((z : Nat) : Int) ≤ most := by omega
        have HZM := hide hzm
        have HZL := hide hzl
        obtain ⟨q1, q1'⟩ := head_run (a := aa) (n := l) (c := l) (h := z) hzl
        obtain ⟨q2, q2'⟩ := wcutL_run (a := aa) (n := l) (k := z) hzl
        have hbt := (unhide HC).take (m := z) hzl (unhide HBS)
        have cv : ∀ W : World, Below w1.heap.size w1 W → (convert 22 9 (.slice aa z l)).run Try.prog W = .ok (.string ⟨((bs.drop k).take z).toArray⟩) W := fun W hb =>
          run_convert_bytes (P := Try.prog) W 22 9 5 Try.underlying22 Try.underlying5 Try.underlying9 _ _ (hbt.laterW hb)
        have CV := hide cv
        have HRT : Hid (ReadsT bs most ((bs.drop k).take z) k) := by
          have := readsT_of (unhide HR) (by omega) hzm (by have := unhide HBL; have := unhide HLK; have h3 := (unhide HR).le; omega)
          rwa [Int.toNat_natCast] at this
        have HTL : Hid (((bs.drop k).take z).length = z) := by show _ = _; rw [List.length_take, unhide HBS]; omega
        generalize (bs.drop k).take z = t at *
        clear hy hbt cv
        go_upto_region 4 with fail
        go_wp2_with (refine wpList_min2_w (by simp [Region.wanted, yielded]) (.tmp 23) (.tmp 25) 3 3 rfl _ _ _ _ rfl rfl ?_; rw [← unhide HY])
        go_upto_region 6 with fail
        have cvn : ∀ j, (convert 22 9 (.slice aa z l)).run Try.prog (w1.drewN j) = .ok (.string ⟨t.toArray⟩) (w1.drewN j) := fun j => unhide CV _ (below_drewN _ _)
        generalize hB : (⟨t.toArray⟩ : ByteArray) = st at *
        clear hneg hneg' hgt hgt' hzl hzm
        go_quiet (fail)
        go_wp2_with fail
        go_ret3
        refine ⟨.inl ⟨t, k, unhide HRT, ?_⟩, (unhide HB1).trans ((below_drewN _ _).mono (unhide HB1).size)⟩
        rw [unhide HTL, ← unhide HLK, ← unhide HAA, hB]
        rfl
  · go_wp2_with fail
    go_ret3
    exact ⟨.inr ⟨noText_of_noNum hN, rfl⟩, unhide HB1⟩
end Go.Proofs.Ytifnjdplbdpelaa
