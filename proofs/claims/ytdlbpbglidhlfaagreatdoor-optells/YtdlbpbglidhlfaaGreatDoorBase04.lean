/- WireImplF, GenWant, WireImplG, FragReader, FragTakeL, FragItem: our own definitions and contracts; no statement of the seat is proved here. -/
import Derived.Test.YtdlbpbglidhlfaaGreatDoorBase03
import Derived.Test.YtdlbpbglidhlfaaGreatDoorBase00
import Derived.Test.YtdlbpbglidhlfaaGreatDoorBase02
import Derived.WalkLawsBesides
import Derived.Lib.AppendZeros
namespace Go.Proofs.YtdlbpbglidhlfaaGreatDoor
open Go.RowKit Go.Shelf Go.Lib

/-- What TakeNum tells of bytes. -/
def TookNum (a : Option Addr) (n : Nat) (bs : List UInt8) (e : Ending) : Prop :=
  (∃ (x : Int) (k : Nat), Reads bs x k ∧ e = .returned (.tuple #[.int .i64 x, .slice (wcutA a n k) (n - k) (n - k), .int .i64 0])) ∨ (NoNum bs ∧ e = .returned (.tuple #[.int .i64 0, .slice none 0 0, .int .i64 30]))

set_option maxRecDepth 100000 in
set_option maxHeartbeats 2000000 in
theorem takeNum_any (a : Option Addr) (n c : Nat) (bs : List UInt8) (w : World) (h : Bytes w (.slice a n c) bs) (hl : n ≤ 1048576) : Calls Tryz.prog 80 #[.slice a n c] w fun e w' => TookNum a n bs e ∧ Below w.heap.size w w' := by
  obtain ⟨hbl, hnc⟩ := bytes_len h
  obtain ⟨m, hm⟩ : ∃ m, m = min n 10 := ⟨_, rfl⟩
  have hmm : min (n : Int) 10 = ((m : Nat) : Int) := by omega
  have hm10 : m ≤ 10 := by omega
  have hmn : m ≤ n := by omega
  have hbm := h.take (m := m) hmn hbl
  obtain ⟨q, q'⟩ := head_run (a := a) (n := n) (c := c) (h := m) (by omega)
  have HH := hide h
  have HBL := hide hbl
  have HBM := hide hbm
  have HM := hide hm
  have hml : (bs.take m).length = m := by rw [List.length_take]; omega
  have HML := hide hml
  have HNC := hide hnc
  have HL := hide hl
  clear h hbl hbm hm hml hl
  go_enter Tryz.func80, Tryz.ntmps80
  go_wp2_with (refine wpList_min2 rfl (.tmp 10) (.const (.int .i64 10)) 3 3 rfl _ _ _ _ rfl rfl ?_; rw [hmm])
  go_wp2_with fail
  refine (indexFunc_any (.slice a m c) (bs.take m) _ (unhide HBM) (by have := unhide HML; omega)).mono ?_
  rintro e w1 ⟨⟨i, hi, rfl⟩, hw⟩
  rw [hw]
  clear hw w1
  rcases hi with ⟨p, y, r, he, hp, hy, rfl⟩ | ⟨hH, rfl⟩
  · obtain ⟨k, hk⟩ : ∃ k, k = p.length + 1 := ⟨_, rfl⟩
    have hkm : k ≤ m := by have h1 := congrArg List.length he; rw [unhide HML] at h1; simp at h1; omega
    have hbs : bs = p ++ y :: (r ++ bs.drop m) := by
      have h1 := List.take_append_drop m bs
      rw [he] at h1
      exact h1.symm.trans (by simp)
    have htk : bs.take k = p ++ [y] := by
      rw [hbs, hk, show p ++ y :: (r ++ bs.drop m) = (p ++ [y]) ++ (r ++ bs.drop m) by simp]
      exact List.take_left' (by simp)
    have HP := hide hp
    have HY := hide hy
    have HBS := hide hbs
    have HTK := hide htk
    have HKL : Hid ((bs.take k).length = k) := by show _ = _; rw [htk, hk]; simp
    have hbk := (unhide HH).take (m := k) (by omega) (unhide HBL)
    have HBK := hide hbk
    obtain ⟨q1, q1'⟩ := head_run (a := a) (n := n) (c := c) (h := k) (by omega)
    have hk1 : ((p.length : Nat) : Int) + 1 = ((k : Nat) : Int) := by omega
    have hk0 : ((k : Nat) : Int) ≠ 0 := by omega
    have hkn : ((k : Nat) : Int) ≤ (c : Nat) := by omega
    have HK := hide hk
    clear he hp hy hbs htk hbk hk
    have HJL := hide (jn_lt64 (bs.take k))
    have HIN := hide (unz_in (jn_lt64 (bs.take k)))
    have HTEN := hide (numB_ten (unz_in (jn_lt64 (bs.take k))))
    obtain ⟨wA, hwA⟩ : ∃ wA, wA = w.alloc (.cells #[.int .u8 0, .int .u8 0, .int .u8 0, .int .u8 0, .int .u8 0, .int .u8 0, .int .u8 0, .int .u8 0, .int .u8 0, .int .u8 0] 133) := ⟨_, rfl⟩
    have HR : Hid (Room w 133 w.heap.size 10 [] wA) := by
      rw [hwA]
      exact ⟨⟨_, heap_alloc_new w _, rfl, by simp⟩, by simp, by unfold maxLen; omega, Nat.le_refl _, (Below.refl _ w).alloc (Nat.le_refl _) _⟩
    have HWA := hide hwA
    clear hwA
    go_upto_region 4 with fail
    go_wp2_with fail
    refine (joined_any (.slice a k c) (bs.take k) _ (unhide HBK) (by have := unhide HKL; omega)).mono ?_
    rintro e w1 ⟨rfl, hw⟩
    rw [hw]
    clear hw w1
    go_wp2_with fail
    refine (unfolded_any _ (unhide HJL) _).mono ?_
    rintro e w1 ⟨rfl, hw⟩
    rw [hw]
    clear hw w1
    have HX : Hid (zz (unz (jn64 (bs.take k))) = jn64 (bs.take k)) := zz_unz _
    generalize unz (jn64 (bs.take k)) = x at *
    go_upto_region 6 with fail
    rw [← unhide HWA]
    have HLN : Hid (([] : List UInt8).length + (numB x).length ≤ 10) := by show _ ≤ _; simpa using unhide HTEN
    have hkn2 : k ≤ n := by omega
    obtain ⟨q2, q2'⟩ := cut_run (a := a) (n := n) (c := c) (k := k) hkn2 hnc
    by_cases hq : numB x = bs.take k
    · have hd : decide (numB x = bs.take k) = true := decide_eq_true hq
      have HQ := hide hq
      clear hq
      go_cut [29] (fun v wx => v = .bool false ∧ Below w.heap.size w wx)
      case first =>
        go_region_with (first
          | (go_at_call 66; refine (wPutNumber_any w _ w.heap.size 10 [] x (unhide HIN) _ (by exact (unhide HR).drew) (unhide HLN) (by simp)).mono ?_; rintro e w2 ⟨rfl, hR2⟩)
          | (go_at_call 106; refine (bytesEqual_any _ _ (numB x) (bs.take k) _ (by simpa using hR2.bytes) ((unhide HBK).laterW (by exact hR2.bb))).mono ?_; rintro e w3 ⟨rfl, hw3⟩; rw [hw3]; clear hw3; rw [hd]))
        all_goals (
          have HBB := hide hR2.bb
          clear hR2 hd
          go_wp2_with fail
          go_meet
          exact ⟨rfl, unhide HBB⟩)
      obtain ⟨rfl, hb⟩ := hcut
      have HBB := hide hb
      clear hb hd
      go_upto_region 8 with fail
      go_quiet (fail)
      go_wp2_with fail
      go_ret3
      refine ⟨.inl ⟨x, k, ⟨unhide HIN, ?_, ?_⟩, rfl⟩, (unhide HBB).trans ((below_drewN _ _).mono (unhide HBB).size)⟩
      · rw [unhide HQ]; exact (unhide HKL).symm
      · rw [unhide HQ, List.take_append_drop]
    · have hd : decide (numB x = bs.take k) = false := decide_eq_false hq
      have HQ := hide hq
      clear hq
      go_cut [29] (fun v wx => v = .bool true ∧ Below w.heap.size w wx)
      case first =>
        go_region_with (first
          | (go_at_call 66; refine (wPutNumber_any w _ w.heap.size 10 [] x (unhide HIN) _ (by exact (unhide HR).drew) (unhide HLN) (by simp)).mono ?_; rintro e w2 ⟨rfl, hR2⟩)
          | (go_at_call 106; refine (bytesEqual_any _ _ (numB x) (bs.take k) _ (by simpa using hR2.bytes) ((unhide HBK).laterW (by exact hR2.bb))).mono ?_; rintro e w3 ⟨rfl, hw3⟩; rw [hw3]; clear hw3; rw [hd]))
        all_goals (
          have HBB := hide hR2.bb
          clear hR2 hd
          go_wp2_with fail
          go_meet
          exact ⟨rfl, unhide HBB⟩)
      obtain ⟨rfl, hb⟩ := hcut
      have HBB := hide hb
      clear hb hd
      go_wp2_with fail
      go_ret3
      refine ⟨.inr ⟨fun x' k' hr => ?_, rfl⟩, unhide HBB⟩
      obtain ⟨p', y', e1, e2, h3, h4, _, h5⟩ := hr.form
      obtain ⟨rfl, rfl, _⟩ := highs_same (unhide HP) h3 (unhide HY) h4 ((unhide HBS).symm.trans e1)
      apply unhide HQ
      have hz := unhide HX
      rw [unhide HTK, h5] at hz ⊢
      have h6 : jn64 (numB x') = zz x' := by
        unfold jn64 numB
        rw [val_grp]
        exact Nat.mod_eq_of_lt (zz_lt hr.inr)
      rw [h6] at hz
      rw [zz_inj hz]
  · have HHI := hide hH
    clear hH
    go_wp2
    go_ret3
    refine ⟨.inr ⟨?_, rfl⟩, Below.refl _ _⟩
    exact noNum_highs (unhide HHI) (by have := unhide HM; have := unhide HBL; omega)
end Go.Proofs.YtdlbpbglidhlfaaGreatDoor

namespace Go.Proofs.YtdlbpbglidhlfaaGreatDoor
open Go.RowKit

theorem wpList_want {P : Program} {ops : Array Oper} {Q : Exit → Act → World → Prop} {a : Act} {w : World} {rest : List Oper} {o : Oper} (hw : Region.wanted o (yielded ops a.tmps) = true)
    (h : ∀ K : Act → World → Prop, (∀ a w, wpList P ops Q rest a w → K a w) → o.wp P a w K Q) : wpList P ops Q (o :: rest) a w :=
  wpList_step fun K hK => by rw [if_pos hw]; exact h K hK

theorem wpList_append_bytes_w {P : Program} (w : World) {ops : Array Oper} {rest : List Oper} {op : Oper} {a : Act} {Q : Exit → Act → World → Prop}
    (hg : Region.wanted op (yielded ops a.tmps) = true) (s x : Operand) (t : TypeId) (hop : op.op = Op.call { callee := Callee.builtin Builtin.append, args := #[s, x], argTypes := #[t, t] })
    (e : TypeId) (i : TypeInfo) (z : Value) (ht : P.underlying t = some (.slice e)) (hi : P.info? e = some i) (hz : i.zero = some z) (hs : i.size = 1) (hb : i.bytes = 1) (hzs : z.cells.size = 1)
    (v : Value) (xs : List UInt8) (hsv : a.eval s = v) (hown : w.ownsRow 0 e 1 v xs.length (xs.map bv)) (u : Value) (bs : List UInt8) (hxu : a.eval x = u) (hu : Bytes w u bs) (hl : xs.length + bs.length ≤ 140737488355328)
    (hK : ∀ v' w', w'.ownsRow 0 e 1 v' (xs ++ bs).length ((xs ++ bs).map bv) → w.grownBy w' v.ownBlock → (v'.ownBlock = v.ownBlock ∨ ∃ k, v'.ownBlock = some k ∧ w.heap.size ≤ k) → wpList P ops Q rest (a.put op.dst v') w') :
    wpList P ops Q (op :: rest) a w := by
  refine wpList_want hg fun K hK' => ?_
  obtain ⟨v', w', hrun, r1, r2, r3⟩ := run_append_bytes (P := P) w t op.type e i z ht hi hz hs hb hzs v xs hown u bs hu hl
  unfold Oper.wp
  simp [execOp, hop, resolve, invoke, builtin, hsv, hxu, hrun, Result.andThen]
  exact hK' _ _ (hK v' w' r1 r2 r3)

/-- max of two numbers, in one way. -/
theorem wpList_max2_w {P : Program} {w : World} {ops : Array Oper} {rest : List Oper} {op : Oper} {a : Act} {Q : Exit → Act → World → Prop} (hgd : Region.wanted op (yielded ops a.tmps) = true) (x y : Operand) (t s : TypeId)
    (ho : op.op = .call { callee := .builtin .max, args := #[x, y], argTypes := #[t, s] }) (k k' : IntKind) (m n : Int) (hx : a.eval x = .int k m) (hy : a.eval y = .int k' n)
    (h : wpList P ops Q rest (a.put op.dst (.int k (max m n))) w) : wpList P ops Q (op :: rest) a w := by
  refine wpList_want hgd fun K hK => ?_
  have hrun : (Builtin.max_ #[t, s] op.type #[.int k m, .int k' n]).run P w = .ok (.int k (max m n)) w := by
    rw [run_max_int2]; congr 2; split <;> omega
  unfold Oper.wp
  simp [execOp, ho, resolve, invoke, builtin, hx, hy, hrun, Result.andThen]
  exact hK _ _ h
end Go.Proofs.YtdlbpbglidhlfaaGreatDoor

namespace Go.Proofs.YtdlbpbglidhlfaaGreatDoor
open Go.RowKit Go.Shelf Go.Lib

/-- min of two numbers, in one way, under a guard. -/
theorem wpList_min2_w {P : Program} {w : World} {ops : Array Oper} {rest : List Oper} {op : Oper} {a : Act} {Q : Exit → Act → World → Prop} (hgd : Region.wanted op (yielded ops a.tmps) = true) (x y : Operand) (t s : TypeId)
    (ho : op.op = .call { callee := .builtin .min, args := #[x, y], argTypes := #[t, s] }) (k k' : IntKind) (m n : Int) (hx : a.eval x = .int k m) (hy : a.eval y = .int k' n)
    (h : wpList P ops Q rest (a.put op.dst (.int k (min m n))) w) : wpList P ops Q (op :: rest) a w := by
  refine wpList_want hgd fun K hK => ?_
  have hrun : (Builtin.min_ #[t, s] op.type #[.int k m, .int k' n]).run P w = .ok (.int k (min m n)) w := by
    rw [run_min_int2]; congr 2; split <;> omega
  unfold Oper.wp
  simp [execOp, ho, resolve, invoke, builtin, hx, hy, hrun, Result.andThen]
  exact hK _ _ h

/-- What TakeText tells of bytes. -/
def TookText (a : Option Addr) (n : Nat) (bs : List UInt8) (most : Int) (e : Ending) : Prop :=
  (∃ (s : List UInt8) (k : Nat), ReadsT bs most s k ∧ e = .returned (.tuple #[.string ⟨s.toArray⟩, .slice (wcutA (wcutA a n k) (n - k) s.length) (n - k - s.length) (n - k - s.length), .int .i64 0])) ∨
  (NoText bs most ∧ e = .returned (.tuple #[.string ⟨#[]⟩, .slice none 0 0, .int .i64 30]))

set_option maxRecDepth 100000 in
set_option maxHeartbeats 2000000 in
theorem takeText_any (a : Option Addr) (n c : Nat) (bs : List UInt8) (most : Int) (w : World) (h : Bytes w (.slice a n c) bs) (hl : n ≤ 1048576) (hmost : InR most) : Calls Tryz.prog 81 #[.slice a n c, .int .i64 most] w fun e w' => TookText a n bs most e ∧ Below w.heap.size w w' := by
  obtain ⟨hbl, hnc⟩ := bytes_len h
  have HH := hide h
  have HBL := hide hbl
  have HL := hide hl
  have HMO := hide hmost
  clear h hbl hnc hl hmost
  go_enter Tryz.func81, Tryz.ntmps81
  go_wp2_with fail
  refine (takeNum_any a n c bs _ (unhide HH) (unhide HL)).mono ?_
  rintro e w1 ⟨ht, hb1⟩
  have HB1 := hide hb1
  clear hb1
  rcases ht with ⟨x, k, hr, rfl⟩ | ⟨hN, rfl⟩
  · have HR := hide hr
    have hkn := hr.le
    rw [unhide HBL] at hkn
    have hk0 := hr.pos
    obtain ⟨hx1, hx2⟩ := hr.inr
    have HC := hide (((unhide HH).cut hkn).laterW (unhide HB1))
    have hBS : (bs.drop k).length = n - k := by rw [List.length_drop, unhide HBL]
    have HBS := hide hBS
    obtain ⟨l, hlk⟩ : ∃ l, l = n - k := ⟨_, rfl⟩
    rw [← hlk] at HC HBS
    have HLK := hide hlk
    have hl20 : l ≤ 1048576 := by have := unhide HL; omega
    obtain ⟨aa, haa⟩ : ∃ aa, aa = wcutA a n k := ⟨_, rfl⟩
    rw [← haa] at HC
    have HAA := hide haa
    rw [← unhide HLK, ← haa]
    clear hr hkn hk0 hBS hlk haa
    by_cases hneg : x < 0
    · have hneg' : decide (x < 0) = true := decide_eq_true hneg
      go_wp2_with fail
      go_ret3
      refine ⟨.inr ⟨?_, rfl⟩, unhide HB1⟩
      exact noText_of (unhide HR) (.inl (by omega))
    · have hneg' : decide (x < 0) = false := decide_eq_false hneg
      obtain ⟨y, hy⟩ : ∃ y, y = min most ((l : Nat) : Int) := ⟨_, rfl⟩
      have HY := hide hy
      by_cases hgt : x > y
      · have hgt' : decide (x > y) = true := decide_eq_true hgt
        clear hy
        go_wp2_with (refine wpList_min2_w (by simp [Region.wanted, yielded]) (.tmp 23) (.tmp 25) 3 3 rfl _ _ _ _ rfl rfl ?_; rw [← unhide HY])
        go_wp2_with fail
        go_ret3
        refine ⟨.inr ⟨?_, rfl⟩, unhide HB1⟩
        refine noText_of (unhide HR) (.inr ?_)
        have := unhide HBL
        have := unhide HY
        have := unhide HLK
        have h3 := (unhide HR).le
        omega
      · have hgt' : decide (x > y) = false := decide_eq_false hgt
        obtain ⟨z, hz⟩ : ∃ z : Nat, x = ((z : Nat) : Int) := ⟨x.toNat, by omega⟩
        subst hz
        have hzl : z ≤ l := by omega
        have hzm : ((z : Nat) : Int) ≤ most := by omega
        have HZM := hide hzm
        have HZL := hide hzl
        obtain ⟨q1, q1'⟩ := head_run (a := aa) (n := l) (c := l) (h := z) hzl
        obtain ⟨q2, q2'⟩ := wcutL_run (a := aa) (n := l) (k := z) hzl
        have hbt := (unhide HC).take (m := z) hzl (unhide HBS)
        have cv : ∀ W : World, Below w1.heap.size w1 W → (convert 28 9 (.slice aa z l)).run Tryz.prog W = .ok (.string ⟨((bs.drop k).take z).toArray⟩) W := fun W hb =>
          run_convert_bytes (P := Tryz.prog) W 28 9 5 Tryz.underlying28 Tryz.underlying5 Tryz.underlying9 _ _ (hbt.laterW hb)
        have CV := hide cv
        have HRT : Hid (ReadsT bs most ((bs.drop k).take z) k) := by
          have := readsT_of (unhide HR) (by omega) hzm (by have := unhide HBL; have := unhide HLK; have h3 := (unhide HR).le; omega)
          rwa [Int.toNat_natCast] at this
        have HTL : Hid (((bs.drop k).take z).length = z) := by show _ = _; rw [List.length_take, unhide HBS]; omega
        generalize (bs.drop k).take z = t at *
        clear hy hbt cv
        go_upto_region 4 with fail
        go_wp2_with (refine wpList_min2_w (by simp [Region.wanted, yielded]) (.tmp 23) (.tmp 25) 3 3 rfl _ _ _ _ rfl rfl ?_; rw [← unhide HY])
        go_upto_region 6 with fail
        have cvn : ∀ j, (convert 28 9 (.slice aa z l)).run Tryz.prog (w1.drewN j) = .ok (.string ⟨t.toArray⟩) (w1.drewN j) := fun j => unhide CV _ (below_drewN _ _)
        generalize hB : (⟨t.toArray⟩ : ByteArray) = st at *
        clear hneg hneg' hgt hgt' hzl hzm
        go_quiet (fail)
        go_wp2_with fail
        go_ret3
        refine ⟨.inl ⟨t, k, unhide HRT, ?_⟩, (unhide HB1).trans ((below_drewN _ _).mono (unhide HB1).size)⟩
        rw [unhide HTL, ← unhide HLK, ← unhide HAA, hB]
        rfl
  · go_wp2_with fail
    go_ret3
    exact ⟨.inr ⟨noText_of_noNum hN, rfl⟩, unhide HB1⟩
end Go.Proofs.YtdlbpbglidhlfaaGreatDoor

namespace Go.Proofs.YtdlbpbglidhlfaaGreatDoor
open Go.RowKit

/-- But for the block g, and new ones, the world is as it was. -/
structure ButF (g : Nat) (W W' : World) : Prop where
  os : W'.os = W.os
  tape : W'.tape = W.tape
  output : W'.output = W.output
  size : W.heap.size ≤ W'.heap.size
  block : ∀ k, k < W.heap.size → k ≠ g → W'.heap[k]? = W.heap[k]?
theorem ButF.of {g : Nat} {W W' : World} (h : Below W.heap.size W W') : ButF g W W' := ⟨h.os, h.tape, h.output, h.size, fun k hk _ => h.block k hk⟩
theorem ButF.refl (g : Nat) (W : World) : ButF g W W := ⟨rfl, rfl, rfl, Nat.le_refl _, fun _ _ _ => rfl⟩
theorem ButF.trans {g : Nat} {W W' W'' : World} (h : ButF g W W') (h' : ButF g W' W'') : ButF g W W'' :=
  ⟨h'.os.trans h.os, h'.tape.trans h.tape, h'.output.trans h.output, Nat.le_trans h.size h'.size, fun k hk hn => (h'.block k (Nat.lt_of_lt_of_le hk h.size) hn).trans (h.block k hk hn)⟩
theorem ButF.set {g : Nat} {W W' : World} (h : ButF g W W') (o : Nat) (v : Value) : ButF g W (W'.setCell ⟨g, o, none⟩ v) := by
  have b := (Below.refl 0 W').setCell (p := ⟨g, o, none⟩) (Nat.zero_le _) v
  exact ⟨b.os.trans h.os, b.tape.trans h.tape, b.output.trans h.output, by rw [World.size_setCell]; exact h.size, fun k hk hn => (Below.heap_setCell _ _ _ _ hn).trans (h.block k hk hn)⟩
theorem ButF.below {g : Nat} {w0 W W' : World} (h : ButF g W W') (hb : Below w0.heap.size w0 W) (hg : w0.heap.size ≤ g) : Below w0.heap.size w0 W' :=
  ⟨h.os.trans hb.os, h.tape.trans hb.tape, h.output.trans hb.output, Nat.le_trans hb.size h.size, fun k hk => (h.block k (Nat.lt_of_lt_of_le hk hb.size) (by omega)).trans (hb.block k hk)⟩
theorem ButF.cell {g : Nat} {W W' : World} (h : ButF g W W') {p : Addr} {x : Value} (hx : W.cell? p = some x) (hp : p.block ≠ g) : W'.cell? p = some x :=
  (World.cell?_of_block (h.block p.block (World.block_lt_of_cell? _ _ hx) hp)).trans hx

/-- A reader in the block g: what is left, in the world w0; or it is broken. -/
structure RdF (w0 : World) (g : Nat) (st : Option (List UInt8)) (W : World) : Prop where
  below : Below w0.heap.size w0 W
  new : w0.heap.size ≤ g
  is : ∃ (a : Option Addr) (n c : Nat) (bs : List UInt8) (brk : Bool), W.heap[g]? = some (.cells #[.slice a n c, .bool brk] 113 (0, 0)) ∧ Bytes w0 (.slice a n c) bs ∧ n ≤ 1048576 ∧ ((brk = false ∧ st = some bs) ∨ (brk = true ∧ st = none ∧ bs = []))
theorem RdF.later {w0 W W' : World} {g : Nat} {st : Option (List UInt8)} (h : RdF w0 g st W) (hb : Below W.heap.size W W') : RdF w0 g st W' := by
  obtain ⟨h1, h2, a, n, c, bs, brk, h3, h4⟩ := h
  exact ⟨h1.trans (hb.mono h1.size), h2, a, n, c, bs, brk, (hb.block _ (Array.getElem?_eq_some_iff.1 h3).1).trans h3, h4⟩
theorem RdF.lt {w0 W : World} {g : Nat} {st : Option (List UInt8)} (h : RdF w0 g st W) : g < W.heap.size := by
  obtain ⟨_, _, a, n, c, bs, brk, h3, _⟩ := h
  exact (Array.getElem?_eq_some_iff.1 h3).1
theorem cells2F {W : World} {g : Nat} {v0 v1 : Value} {t : TypeId} (h : W.heap[g]? = some (.cells #[v0, v1] t (0, 0))) : W.cell? ⟨g, 0, none⟩ = some v0 ∧ W.cell? ⟨g, 1, none⟩ = some v1 ∧ W.frozen? ⟨g, 0, none⟩ = false ∧ W.frozen? ⟨g, 1, none⟩ = false :=
  ⟨cell_of_row _ _ 0 _ _ _ h, cell_of_row _ _ 1 _ _ _ h, frozen_of_row _ _ _ _ _ h, frozen_of_row _ _ _ _ _ h⟩

theorem fLeave_any (w0 : World) (g : Nat) (st : Option (List UInt8)) (w : World) (h : RdF w0 g st w) : Calls Tryz.prog 122 #[.pointer (some ⟨g, 0, none⟩)] w fun e W => e = .returned (.tuple #[]) ∧ RdF w0 g none W ∧ ButF g w W := by
  obtain ⟨h1, h2, a, n, c, bs, brk, h3, h4, h5, h6⟩ := h
  obtain ⟨c0, c1, f0, f1⟩ := cells2F h3
  have HF : Hid (RdF w0 g none ((w.setCell ⟨g, 0, none⟩ (.slice none 0 0)).setCell ⟨g, 1, none⟩ (.bool true))) := by
    refine ⟨(h1.setCell (p := ⟨g, 0, none⟩) h2 _).setCell (p := ⟨g, 1, none⟩) h2 _, h2, none, 0, 0, [], true, ?_, (Own.start w0).fresh.1.1, Nat.zero_le _, .inr ⟨rfl, rfl, rfl⟩⟩
    exact heap_setCell_same _ _ _ _ _ _ (heap_setCell_same _ _ _ _ _ _ h3)
  have HU : Hid (ButF g w ((w.setCell ⟨g, 0, none⟩ (.slice none 0 0)).setCell ⟨g, 1, none⟩ (.bool true))) := ((ButF.refl g w).set 0 _).set 1 _
  clear h1 h2 h3 h4 h5 h6
  go_enter Tryz.func122, Tryz.ntmps122
  go_wp2_with fail
  go_end0
  exact ⟨rfl, unhide HF, unhide HU⟩

set_option maxRecDepth 100000 in
set_option maxHeartbeats 1000000 in
theorem fNumber_any (w0 : World) (g most : Nat) (st : Option (List UInt8)) (w : World) (h : RdF w0 g st w) : Calls Tryz.prog 111 #[.pointer (some ⟨g, 0, none⟩), .int .i64 ((most : Nat) : Int)] w fun e W => ∃ N : Nat, e = .returned (.int .i64 ((N : Nat) : Int)) ∧ N = (numS most st).1 ∧ N ≤ most ∧ RdF w0 g (numS most st).2 W ∧ ButF g w W := by
  have HR := hide h
  obtain ⟨h1, h2, a, n, c, bs, brk, h3, h4, h5, h6⟩ := h
  obtain ⟨c0, c1, f0, f1⟩ := cells2F h3
  have HT := hide (takeNum_any a n c bs w (h4.kept fun k _ hk => h1.block k hk) h5)
  have HBY := hide h4
  have HOR := hide h6
  have H5 := hide h5
  clear h1 h2 h3 h4 h5 h6
  go_enter Tryz.func111, Tryz.ntmps111
  go_wp2_with fail
  refine (unhide HT).mono ?_
  rintro e w1 ⟨ht, hb1⟩
  have HR1 := hide ((unhide HR).later hb1)
  have HU1 : Hid (ButF g w w1) := ButF.of hb1
  have k0 := (hb1.cell (World.block_lt_of_cell? _ _ c0)).trans c0
  have k1 := (hb1.cell (World.block_lt_of_cell? _ _ c1)).trans c1
  have r0 := (hb1.frozen (World.block_lt_of_cell? _ _ c0)).trans f0
  have r1 := (hb1.frozen (World.block_lt_of_cell? _ _ c1)).trans f1
  clear hb1 c0 c1 f0 f1
  rcases ht with ⟨x, k, hr, rfl⟩ | ⟨hNo, rfl⟩
  · have hkn : k ≤ n := by have h1 := hr.le; obtain ⟨hbl, -⟩ := bytes_len (unhide HBY); omega
    have hst : st = some bs := by
      rcases unhide HOR with ⟨_, h⟩ | ⟨_, _, h⟩
      · exact h
      · subst h; have h1 := hr.le; have := hr.pos; simp at h1; omega
    have hbrk : brk = false := by
      rcases unhide HOR with ⟨h, _⟩ | ⟨_, _, h⟩
      · exact h
      · subst h; have h1 := hr.le; have := hr.pos; simp at h1; omega
    by_cases hx : 0 ≤ x ∧ x ≤ ((most : Nat) : Int)
    · obtain ⟨N, rfl⟩ : ∃ N : Nat, x = ((N : Nat) : Int) := ⟨x.toNat, by omega⟩
      have HS := hide (numS_ok (most := most) hr (by omega))
      have p1 : ¬ ((N : Nat) : Int) < 0 := by omega
      have p2 : ¬ ((N : Nat) : Int) > ((most : Nat) : Int) := by omega
      have HN : Hid (N ≤ most) := by show _ ≤ _; omega
      have HF : Hid (RdF w0 g (some (bs.drop k)) (w1.setCell ⟨g, 0, none⟩ (.slice (wcutA a n k) (n - k) (n - k)))) := by
        obtain ⟨i1, i2, a', n', c', bs', brk', i3, i4, i5, i6⟩ := unhide HR1
        have e1 := (cells2F i3).1.symm.trans k0
        have e2 := (cells2F i3).2.1.symm.trans k1
        simp only [Option.some.injEq, Value.slice.injEq, Value.bool.injEq] at e1 e2
        obtain ⟨rfl, rfl, rfl⟩ := e1
        subst e2
        refine ⟨i1.setCell (p := ⟨g, 0, none⟩) i2 _, i2, wcutA a' n' k, n' - k, n' - k, bs.drop k, brk', heap_setCell_same _ _ _ _ _ _ i3, (unhide HBY).cut hkn, by have := unhide H5; omega, .inl ⟨hbrk, rfl⟩⟩
      have HU := hide ((unhide HU1).set 0 (.slice (wcutA a n k) (n - k) (n - k)))
      have HST := hide hst
      clear hr hx hkn hst hbrk
      go_wp2_with fail
      go_ret
      refine ⟨N, rfl, ?_, unhide HN, ?_, unhide HU⟩
      · rw [unhide HST, unhide HS]
      · rw [unhide HST, unhide HS]; exact unhide HF
    · have HS : Hid (numS most (some bs) = (0, none)) := numS_no fun N k' hr' => by
        obtain ⟨e, _⟩ := hr.same hr'
        omega
      have HST := hide hst
      have HFIN : Hid (∀ W, RdF w0 g none W → ButF g w W → ∃ N : Nat, Ending.returned (.int .i64 0) = .returned (.int .i64 ((N : Nat) : Int)) ∧ N = (numS most st).1 ∧ N ≤ most ∧ RdF w0 g (numS most st).2 W ∧ ButF g w W) := fun W h1 h2 => ⟨0, rfl, by rw [unhide HST, unhide HS], Nat.zero_le _, by rw [unhide HST, unhide HS]; exact h1, h2⟩
      by_cases hx0 : x < 0
      · clear hr hx hkn hst hbrk
        go_wp2_with fail
        refine (fLeave_any w0 g st _ (unhide HR1)).mono ?_
        rintro e w2 ⟨rfl, hr2, hu2⟩
        have HE := hide (unhide HFIN _ hr2 ((unhide HU1).trans hu2))
        clear hr2 hu2 k0 k1 r0 r1
        go_wp2_with fail
        go_ret
        exact unhide HE
      · have hx1 : x > ((most : Nat) : Int) := by omega
        clear hr hx hkn hst hbrk
        go_wp2_with fail
        refine (fLeave_any w0 g st _ (unhide HR1)).mono ?_
        rintro e w2 ⟨rfl, hr2, hu2⟩
        have HE := hide (unhide HFIN _ hr2 ((unhide HU1).trans hu2))
        clear hr2 hu2 k0 k1 r0 r1
        go_wp2_with fail
        go_ret
        exact unhide HE
  · have HS : Hid (numS most st = (0, none)) := by
      rcases unhide HOR with ⟨_, h⟩ | ⟨_, h, _⟩
      · rw [h]; exact numS_no fun N k' hr' => absurd hr' (hNo _ _)
      · rw [h]; rfl
    have HFIN : Hid (∀ W, RdF w0 g none W → ButF g w W → ∃ N : Nat, Ending.returned (.int .i64 0) = .returned (.int .i64 ((N : Nat) : Int)) ∧ N = (numS most st).1 ∧ N ≤ most ∧ RdF w0 g (numS most st).2 W ∧ ButF g w W) := fun W h1 h2 => ⟨0, rfl, by rw [unhide HS], Nat.zero_le _, by rw [unhide HS]; exact h1, h2⟩
    clear hNo
    go_wp2_with fail
    refine (fLeave_any w0 g st _ (unhide HR1)).mono ?_
    rintro e w2 ⟨rfl, hr2, hu2⟩
    have HE := hide (unhide HFIN _ hr2 ((unhide HU1).trans hu2))
    clear hr2 hu2 k0 k1 r0 r1
    go_wp2_with fail
    go_ret
    exact unhide HE

set_option maxRecDepth 100000 in
set_option maxHeartbeats 1000000 in
theorem fNameR_any (w0 : World) (g : Nat) (st : Option (List UInt8)) (w : World) (h : RdF w0 g st w) : Calls Tryz.prog 112 #[.pointer (some ⟨g, 0, none⟩)] w fun e W => ∃ z : ByteArray, e = .returned (.string z) ∧ z = ⟨(textS nameB st).1.toArray⟩ ∧ (textS nameB st).1.length ≤ 20 ∧ RdF w0 g (textS nameB st).2 W ∧ ButF g w W := by
  have HR := hide h
  obtain ⟨h1, h2, a, n, c, bs, brk, h3, h4, h5, h6⟩ := h
  obtain ⟨c0, c1, f0, f1⟩ := cells2F h3
  have HT := hide (takeText_any a n c bs 20 w (h4.kept fun k _ hk => h1.block k hk) h5 (by unfold InR; omega))
  have HBY := hide h4
  have HOR := hide h6
  have H5 := hide h5
  clear h1 h2 h3 h4 h5 h6
  go_enter Tryz.func112, Tryz.ntmps112
  go_wp2_with fail
  refine (unhide HT).mono ?_
  rintro e w1 ⟨ht, hb1⟩
  have HR1 := hide ((unhide HR).later hb1)
  have HU1 : Hid (ButF g w w1) := ButF.of hb1
  have k0 := (hb1.cell (World.block_lt_of_cell? _ _ c0)).trans c0
  have k1 := (hb1.cell (World.block_lt_of_cell? _ _ c1)).trans c1
  have r0 := (hb1.frozen (World.block_lt_of_cell? _ _ c0)).trans f0
  have r1 := (hb1.frozen (World.block_lt_of_cell? _ _ c1)).trans f1
  clear hb1 c0 c1 f0 f1
  rcases ht with ⟨s, k, hr, rfl⟩ | ⟨hNo, rfl⟩
  · have hkn : k + s.length ≤ n := by have h1 := hr.le; obtain ⟨hbl, -⟩ := bytes_len (unhide HBY); omega
    have hne : bs ≠ [] := fun e => by
      subst e
      have h1 := hr.num.le
      have := hr.num.pos
      simp at h1
      omega
    have hst : st = some bs := by
      rcases unhide HOR with ⟨_, h⟩ | ⟨_, _, h⟩
      · exact h
      · exact absurd h hne
    have hbrk : brk = false := by
      rcases unhide HOR with ⟨h, _⟩ | ⟨_, _, h⟩
      · exact h
      · exact absurd h hne
    have HNM := hide (fName_any s)
    obtain ⟨A, hAA⟩ : ∃ A, A = wcutA (wcutA a n k) (n - k) s.length := ⟨_, rfl⟩
    obtain ⟨M, hM⟩ : ∃ M, M = n - k - s.length := ⟨_, rfl⟩
    rw [← hAA, ← hM]
    obtain ⟨z, hz⟩ : ∃ z : ByteArray, z = ⟨s.toArray⟩ := ⟨_, rfl⟩
    rw [← hz] at HNM ⊢
    have HZ := hide hz
    have hst2 := hst
    have HST := hide hst
    rcases hnb : nameB s with _ | _
    · have HS : Hid (textS nameB (some bs) = ([], none)) := textS_no fun t k' hr' => by
        obtain ⟨e, _⟩ := hr.same hr'
        rw [← e]; exact hnb
      have HFIN : Hid (∀ W, RdF w0 g none W → ButF g w W → ∃ z : ByteArray, Ending.returned (.string ⟨#[]⟩) = .returned (.string z) ∧ z = ⟨(textS nameB st).1.toArray⟩ ∧ (textS nameB st).1.length ≤ 20 ∧ RdF w0 g (textS nameB st).2 W ∧ ButF g w W) := fun W h1 h2 => ⟨_, rfl, by rw [unhide HST, unhide HS], by rw [unhide HST, unhide HS]; simp, by rw [unhide HST, unhide HS]; exact h1, h2⟩
      have HNB := hide hnb
      clear hr hkn hne hst hbrk hz hAA hM hst2 hnb
      go_wp2_with fail
      refine (unhide HNM _).mono ?_
      rintro e w3 ⟨rfl, hw⟩
      rw [hw, unhide HNB]
      clear hw w3
      go_wp2_with fail
      refine (fLeave_any w0 g st _ (unhide HR1)).mono ?_
      rintro e w2 ⟨rfl, hr2, hu2⟩
      have HE := hide (unhide HFIN _ hr2 ((unhide HU1).trans hu2))
      clear hr2 hu2 k0 k1 r0 r1
      go_wp2_with fail
      go_ret
      exact unhide HE
    · have HS := hide (textS_ok (p := nameB) hr hnb)
      have HLN := hide (nameB_len hnb)
      have HF : Hid (RdF w0 g (some (bs.drop (k + s.length))) (w1.setCell ⟨g, 0, none⟩ (.slice A M M))) := by
        obtain ⟨i1, i2, a', n', c', bs', brk', i3, i4, i5, i6⟩ := unhide HR1
        have e1 := (cells2F i3).1.symm.trans k0
        have e2 := (cells2F i3).2.1.symm.trans k1
        simp only [Option.some.injEq, Value.slice.injEq, Value.bool.injEq] at e1 e2
        obtain ⟨rfl, rfl, rfl⟩ := e1
        subst e2
        rw [hAA, hM]
        exact ⟨i1.setCell (p := ⟨g, 0, none⟩) i2 _, i2, _, _, _, bs.drop (k + s.length), brk', heap_setCell_same _ _ _ _ _ _ i3, by rw [← List.drop_drop]; exact ((unhide HBY).cut (by omega)).cut (by omega), by have := unhide H5; omega, .inl ⟨hbrk, rfl⟩⟩
      have HU := hide ((unhide HU1).set 0 (.slice A M M))
      have HNB := hide hnb
      clear hr hkn hne hst hbrk hz hAA hM hst2 hnb
      go_wp2_with fail
      refine (unhide HNM _).mono ?_
      rintro e w3 ⟨rfl, hw⟩
      rw [hw, unhide HNB]
      clear hw w3
      go_wp2_with fail
      go_ret
      refine ⟨_, rfl, ?_, ?_, ?_, unhide HU⟩
      · rw [unhide HST, unhide HS]; exact unhide HZ
      · rw [unhide HST, unhide HS]; exact unhide HLN
      · rw [unhide HST, unhide HS]; exact unhide HF
  · have HS : Hid (textS nameB st = ([], none)) := by
      rcases unhide HOR with ⟨_, h⟩ | ⟨_, h, _⟩
      · rw [h]; exact textS_no fun N k' hr' => absurd hr' (hNo _ _)
      · rw [h]; rfl
    have HFIN : Hid (∀ W, RdF w0 g none W → ButF g w W → ∃ z : ByteArray, Ending.returned (.string ⟨#[]⟩) = .returned (.string z) ∧ z = ⟨(textS nameB st).1.toArray⟩ ∧ (textS nameB st).1.length ≤ 20 ∧ RdF w0 g (textS nameB st).2 W ∧ ButF g w W) := fun W h1 h2 => ⟨_, rfl, by rw [unhide HS], by rw [unhide HS]; simp, by rw [unhide HS]; exact h1, h2⟩
    clear hNo
    go_wp2_with fail
    refine (fLeave_any w0 g st _ (unhide HR1)).mono ?_
    rintro e w2 ⟨rfl, hr2, hu2⟩
    have HE := hide (unhide HFIN _ hr2 ((unhide HU1).trans hu2))
    clear hr2 hu2 k0 k1 r0 r1
    go_wp2_with fail
    go_ret
    exact unhide HE
end Go.Proofs.YtdlbpbglidhlfaaGreatDoor

namespace Go.Proofs.YtdlbpbglidhlfaaGreatDoor
open Go.RowKit

theorem RdF.kept {w0 W W' : World} {g : Nat} {st : Option (List UInt8)} (h : RdF w0 g st W) (hb : Below w0.heap.size w0 W') (hg : W'.heap[g]? = W.heap[g]?) : RdF w0 g st W' := by
  obtain ⟨h1, h2, a, n, c, bs, brk, h3, h4⟩ := h
  exact ⟨hb, h2, a, n, c, bs, brk, hg.trans h3, h4⟩
theorem StrsO.but {B0 g : Nat} {W W' : World} {r : Value} {l : List (List UInt8)} (h : StrsO B0 W r l) (hu : ButF g W W') (hg : g < B0) : StrsO B0 W' r l := h.kept fun k hk => hu.block k (h.lt hk) (by have := h.new k hk; omega)
theorem ButF.alloc {g : Nat} {W W' : World} (h : ButF g W W') (o : Obj) : ButF g W (W'.alloc o) := h.trans (ButF.of ((Below.refl _ W').alloc (Nat.le_refl _) o))
theorem ButF.grown {g : Nat} {w W W' : World} {r : Value} (h : ButF g w W) (hg : W.grownBy W' r.ownBlock) (hr : ∀ k, r.ownBlock = some k → w.heap.size ≤ k) : ButF g w W' :=
  ⟨hg.os.trans h.os, hg.tape.trans h.tape, hg.output.trans h.output, Nat.le_trans h.size hg.size, fun k hk hn => (hg.block k (Nat.lt_of_lt_of_le hk h.size) (fun e => by have := hr k e.symm; omega)).trans (h.block k hk hn)⟩

/-- Behind the reading of one name: what append does. -/
theorem strs_next {w0 w W W3 : World} {g q1 rc : Nat} {ra : Option Addr} {q : List (List UInt8)} {s : List UInt8} {st : Option (List UInt8)} (hq : q.length = q1) (h : StrsO w.heap.size W (.slice ra q1 rc) q) (hg : g < w.heap.size) (hu : ButF g w W) (hu3 : ButF g W W3) (hR : RdF w0 g st W3) (hw : w0.heap.size ≤ w.heap.size) (hs : s.length ≤ 20) (hl : q1 ≤ 1000000) (ty : TypeId) :
    ∃ ra' rc' W7, (Builtin.append_ #[60, 60] ty #[.slice ra q1 rc, .slice (some ⟨W3.heap.size, 0, none⟩) 1 1]).run Tryz.prog (W3.alloc (.cells #[.string ⟨s.toArray⟩] 9)) = .ok (.slice ra' (q1 + 1) rc') W7 ∧
      StrsO w.heap.size W7 (.slice ra' (q1 + 1) rc') (q ++ [s]) ∧ ButF g w W7 ∧ RdF w0 g st W7 := by
  obtain ⟨W4, hW4⟩ : ∃ W4, W4 = W3.alloc (.cells #[.string ⟨s.toArray⟩] 9) := ⟨_, rfl⟩
  have hb4 : Below W3.heap.size W3 W4 := by rw [hW4]; exact (Below.refl _ _).alloc (Nat.le_refl _) _
  have hr4 : W4.heap[W3.heap.size]? = some (.cells #[.string ⟨s.toArray⟩] 9 (0, 0)) := by rw [hW4]; exact heap_alloc_new _ _
  have hu04 : ButF g w W4 := (hu.trans hu3).trans (ButF.of hb4)
  have h4 := (h.but hu3 hg).later hb4
  have hS : StrsAt (fun _ => True) W4 (some ⟨W3.heap.size, 0, none⟩) [s] := fun j hj => by
    obtain rfl : j = 0 := by simp at hj; omega
    exact ⟨_, _, rfl, trivial, cell_of_row _ _ 0 _ _ _ hr4, by show s.length ≤ maxLen; unfold maxLen; omega⟩
  obtain ⟨r', W7, hrun, hv, hg7, hn⟩ := h4.append hu04.size hS (Nat.le_refl _) (fun e => by cases e) (by simp only [List.length_singleton]; omega) ty
  obtain ⟨ra', rc', rfl, _⟩ := hv.at
  rw [List.length_append, List.length_singleton, hq] at hv hrun
  rw [hW4] at hrun
  have hu7 : ButF g w W7 := hu04.grown hg7 fun k hk => h4.new k hk
  refine ⟨ra', rc', W7, hrun, hv, hu7, hR.kept (hu7.below ?_ hR.new) ?_⟩
  · exact ⟨(hu.trans hu3).os ▸ hR.below.os ▸ rfl, (hu.trans hu3).tape ▸ hR.below.tape ▸ rfl, (hu.trans hu3).output ▸ hR.below.output ▸ rfl, hw, fun k hk => by
      rw [← hR.below.block k hk, (hu.trans hu3).block k (by omega) (by have := hR.new; omega)]⟩
  · rw [hg7.block g (by have := hR.lt; have := hb4.size; omega) (fun e => by have := h4.new g e.symm; omega)]
    exact hb4.block g hR.lt

set_option maxRecDepth 100000 in
set_option maxHeartbeats 1000000 in
theorem takeStrs_any (w0 : World) (g most : Nat) (st : Option (List UInt8)) (w : World) (hm : most ≤ 1000) (h : RdF w0 g st w) : Calls Tryz.prog 113 #[.pointer (some ⟨g, 0, none⟩), .int .i64 ((most : Nat) : Int), .func (.func 112) #[.pointer (some ⟨g, 0, none⟩)] #[]] w fun e W => ∃ (ra : Option Addr) (rn rc : Nat), e = .returned (.slice ra rn rc) ∧ rn = (numS most st).1 ∧ StrsO w.heap.size W (.slice ra rn rc) (listS (textS nameB) (numS most st).1 (numS most st).2).1 ∧ RdF w0 g (listS (textS nameB) (numS most st).1 (numS most st).2).2 W ∧ ButF g w W := by
  have HN := hide (fNumber_any w0 g most st w h)
  have hgw := h.lt
  have HW := hide h.below.size
  clear h
  obtain ⟨st1, hst1⟩ : ∃ s, s = (numS most st).2 := ⟨_, rfl⟩
  obtain ⟨N0, hN0⟩ : ∃ s, s = (numS most st).1 := ⟨_, rfl⟩
  rw [← hst1, ← hN0] at HN ⊢
  clear hst1 hN0
  go_enter Tryz.func113, Tryz.ntmps113
  go_wp2_with fail
  refine (unhide HN).mono ?_
  rintro e w2 ⟨N, rfl, rfl, hNm, hR2, hU2⟩
  have HR2 := hide hR2
  have HU2 := hide hU2
  clear hR2 hU2 HN
  go_wp2_with fail
  go_loopw [7, 11] (fun v k W => ∃ (j : Nat) (ra : Option Addr) (rc : Nat), j ≤ N ∧ k = .int .i64 ((j : Nat) : Int) ∧ v = .slice ra j rc ∧ StrsO w.heap.size W (.slice ra j rc) (listS (textS nameB) j st1).1 ∧ RdF w0 g (listS (textS nameB) j st1).2 W ∧ ButF g w W) (fun _ k _ => N - (intOf k).toNat)
  case atStart => exact ⟨0, none, 0, by omega, rfl, rfl, StrsO.nil _ _, unhide HR2, unhide HU2⟩
  case round =>
    obtain ⟨j, ra, rc, hj, rfl, rfl, hS, hR, hU⟩ := hrel
    have HS := hide hS
    have HU := hide hU
    by_cases hlt : j < N
    · have hji : ((j : Nat) : Int) < ((N : Nat) : Int) := by omega
      have HC := hide (fNameR_any w0 g _ _ hR)
      have HLL := hide (listS_len (textS nameB) j st1)
      clear hS hR hU
      go_wp2_with fail
      refine (unhide HC).mono ?_
      rintro e w3 ⟨z, rfl, hz, hl20, hR3, hU3⟩
      obtain ⟨ra', rc', W7, hrun, hS7, hU7, hR7⟩ := strs_next (unhide HLL) (unhide HS) hgw (unhide HU) hU3 hR3 (unhide HW) hl20 (by omega) 60
      rw [← hz] at hrun
      have HRUN := hide hrun
      have HS7 := hide hS7
      have HU7 := hide hU7
      have HR7 := hide hR7
      clear hz hl20 hR3 hU3 hrun hS7 hU7 hR7
      go_wp2_with (at_builtin; refine Lib.wpList_append_run _ rfl _ _ 60 60 rfl _ _ rfl rfl _ _ (unhide HRUN) ?_)
      go_wp2_with fail
      exact ⟨⟨j + 1, ra', rc', by omega, by go_num, rfl, unhide HS7, unhide HR7, unhide HU7⟩, by simp [intOf]; omega⟩
    · have e : j = N := by omega
      have hji : ¬ ((j : Nat) : Int) < ((N : Nat) : Int) := by omega
      have HR := hide hR
      have HE := hide e
      clear hS hR hU e
      go_wp2_with fail
      go_ret
      refine ⟨ra, j, rc, rfl, unhide HE, ?_, ?_, unhide HU⟩
      · rw [← unhide HE]; exact unhide HS
      · rw [← unhide HE]; exact unhide HR
end Go.Proofs.YtdlbpbglidhlfaaGreatDoor

namespace Go.Proofs.YtdlbpbglidhlfaaGreatDoor
open Go.RowKit

theorem set6_heap {W : World} {g : Nat} {u0 u1 u2 u3 u4 u5 : Value} {t : TypeId} (h : W.heap[g]? = some (.cells #[u0, u1, u2, u3, u4, u5] t (0, 0))) (v0 v1 v2 v3 v4 v5 : Value) :
    ((((((W.setCell ⟨g, 0, none⟩ v0).setCell ⟨g, 1, none⟩ v1).setCell ⟨g, 2, none⟩ v2).setCell ⟨g, 3, none⟩ v3).setCell ⟨g, 4, none⟩ v4).setCell ⟨g, 5, none⟩ v5).heap[g]? = some (.cells #[v0, v1, v2, v3, v4, v5] t (0, 0)) := by
  rw [heap_setCell_same _ _ _ _ _ _ (heap_setCell_same _ _ _ _ _ _ (heap_setCell_same _ _ _ _ _ _ (heap_setCell_same _ _ _ _ _ _ (heap_setCell_same _ _ _ _ _ _ (heap_setCell_same _ _ _ _ _ _ h)))))]; rfl
theorem set6_but {g0 g : Nat} {w W : World} (h : ButF g0 w W) (hg : w.heap.size ≤ g) (v0 v1 v2 v3 v4 v5 : Value) :
    ButF g0 w ((((((W.setCell ⟨g, 0, none⟩ v0).setCell ⟨g, 1, none⟩ v1).setCell ⟨g, 2, none⟩ v2).setCell ⟨g, 3, none⟩ v3).setCell ⟨g, 4, none⟩ v4).setCell ⟨g, 5, none⟩ v5) := by
  have one : ∀ (o : Nat) (v : Value) (X : World), ButF g0 w X → ButF g0 w (X.setCell ⟨g, o, none⟩ v) := fun o v X hX => by
    have b := (Below.refl 0 X).setCell (p := ⟨g, o, none⟩) (Nat.zero_le _) v
    exact ⟨b.os.trans hX.os, b.tape.trans hX.tape, b.output.trans hX.output, by rw [World.size_setCell]; exact hX.size, fun k hk hn => (Below.heap_setCell _ _ _ _ (by show k ≠ g; omega)).trans (hX.block k hk hn)⟩
  exact one 5 v5 _ (one 4 v4 _ (one 3 v3 _ (one 2 v2 _ (one 1 v1 _ (one 0 v0 _ h)))))
theorem set6_other {k g : Nat} {W : World} (hk : k ≠ g) (v0 v1 v2 v3 v4 v5 : Value) :
    ((((((W.setCell ⟨g, 0, none⟩ v0).setCell ⟨g, 1, none⟩ v1).setCell ⟨g, 2, none⟩ v2).setCell ⟨g, 3, none⟩ v3).setCell ⟨g, 4, none⟩ v4).setCell ⟨g, 5, none⟩ v5).heap[k]? = W.heap[k]? := by
  rw [Below.heap_setCell _ _ _ _ hk, Below.heap_setCell _ _ _ _ hk, Below.heap_setCell _ _ _ _ hk, Below.heap_setCell _ _ _ _ hk, Below.heap_setCell _ _ _ _ hk, Below.heap_setCell _ _ _ _ hk]
theorem results_cvF {P : Program} {fn : Func} {p : Tmp} {ty : TypeId} (h : fn.results = #[.cell p ty]) (tmps : Array Value) (w : World) (g : Nat) (t : TypeId) (cs : Array Value) (fr : Nat × Nat) (d : TypeDesc)
    (hp : tmps.getD p undef = .pointer (some ⟨g, 0, none⟩)) (hg : w.heap[g]? = some (.cells cs t fr))
    (hu : P.underlying ty = some d) (hd : (match d with | .struct _ | .array _ _ => true | _ => false) = true) (hi : (P.info? ty).map (·.size) = some cs.size) :
    (results fn tmps).run P w = .ok (.agg cs) w := by
  have hp' : tmps[p]?.getD undef = .pointer (some ⟨g, 0, none⟩) := by simpa using hp
  simp only [results, h]
  simp [hp', asAddr, run_loadVar_row w g t ty cs fr d hg hu hd hi]

/-- An item that is being read: its struct in the block G3, the result's in G2. -/
structure ItF (w0 w : World) (g : Nat) (G2 G3 : Nat) (row : Array Value) (st : Option (List UInt8)) (W : World) : Prop where
  rd : RdF w0 g st W
  bu : ButF g w W
  b2 : W.heap[G2]? = some (.cells #[.string ⟨#[]⟩, .int .u8 0, .slice none 0 0, .string ⟨#[]⟩, .int .i64 0, .int .i64 0] 62 (0, 0))
  b3 : W.heap[G3]? = some (.cells row 62 (0, 0))
  l2 : w.heap.size ≤ G2
  l3 : G2 < G3
  lg : g < w.heap.size
  lw : w0.heap.size ≤ w.heap.size
theorem ItF.but {w0 w W W' : World} {g G2 G3 : Nat} {row : Array Value} {st st' : Option (List UInt8)} (h : ItF w0 w g G2 G3 row st W) (hu : ButF g W W') (hr : RdF w0 g st' W') : ItF w0 w g G2 G3 row st' W' :=
  ⟨hr, h.bu.trans hu, (hu.block _ (Array.getElem?_eq_some_iff.1 h.b2).1 (by have := h.l2; have := h.lg; omega)).trans h.b2, (hu.block _ (Array.getElem?_eq_some_iff.1 h.b3).1 (by have := h.l2; have := h.l3; have := h.lg; omega)).trans h.b3, h.l2, h.l3, h.lg, h.lw⟩
theorem ItF.set {w0 w W : World} {g G2 G3 : Nat} {row : Array Value} {st : Option (List UInt8)} (h : ItF w0 w g G2 G3 row st W) (o : Nat) (v : Value) : ItF w0 w g G2 G3 (row.setIfInBounds o v) st (W.setCell ⟨G3, o, none⟩ v) := by
  have b := (Below.refl 0 W).setCell (p := ⟨G3, o, none⟩) (Nat.zero_le _) v
  have l2 := h.l2
  have l3 := h.l3
  have lg := h.lg
  have lw := h.lw
  refine ⟨h.rd.kept (h.rd.below.setCell (p := ⟨G3, o, none⟩) (by show w0.heap.size ≤ G3; omega) v) (Below.heap_setCell _ _ _ _ (by show g ≠ G3; omega)), ⟨b.os.trans h.bu.os, b.tape.trans h.bu.tape, b.output.trans h.bu.output, by rw [World.size_setCell]; exact h.bu.size, fun k hk hn => (Below.heap_setCell _ _ _ _ (by show k ≠ G3; omega)).trans (h.bu.block k hk hn)⟩, (Below.heap_setCell _ _ _ _ (by show G2 ≠ G3; omega)).trans h.b2, ?_, l2, l3, lg, lw⟩
  exact heap_setCell_same _ _ _ _ _ _ h.b3
theorem ItF.cells {w0 w W : World} {g G2 G3 : Nat} {v0 v1 v2 v3 v4 v5 : Value} {st : Option (List UInt8)} (h : ItF w0 w g G2 G3 #[v0, v1, v2, v3, v4, v5] st W) : (W.cell? ⟨G3, 0, none⟩ = some v0 ∧ W.cell? ⟨G3, 1, none⟩ = some v1 ∧ W.cell? ⟨G3, 2, none⟩ = some v2 ∧ W.cell? ⟨G3, 3, none⟩ = some v3 ∧ W.cell? ⟨G3, 4, none⟩ = some v4 ∧ W.cell? ⟨G3, 5, none⟩ = some v5) ∧ ∀ i, W.frozen? ⟨G3, i, none⟩ = false := ⟨cells6 h.b3, fun _ => frozen_of_row _ _ _ _ _ h.b3⟩

/-- What item tells. -/
def ItemM (w0 w : World) (g : Nat) (st : Option (List UInt8)) (e : Ending) (W : World) : Prop :=
  ∃ (z : ByteArray) (K : Nat) (pa : Option Addr) (pn pc : Nat) (zo : ByteArray) (wd qt : Int), e = .returned (.agg #[.string z, .int .u8 ((K : Nat) : Int), .slice pa pn pc, .string zo, .int .i64 wd, .int .i64 qt]) ∧
    (itemS nameB st).1.At (fun k => w.heap.size ≤ k ∧ NFr W k) W (.agg #[.string z, .int .u8 ((K : Nat) : Int), .slice pa pn pc, .string zo, .int .i64 wd, .int .i64 qt]) ∧ RdF w0 g (itemS nameB st).2 W ∧ ButF g w W

theorem item_done {w0 w W : World} {g G2 G3 : Nat} {z zo : ByteArray} {K pn pc : Nat} {pa : Option Addr} {wd qt : Int} {st st' : Option (List UInt8)} {x : FI} (h : ItF w0 w g G2 G3 #[.string z, .int .u8 ((K : Nat) : Int), .slice pa pn pc, .string zo, .int .i64 wd, .int .i64 qt] st' W) (hS : StrsO (G3 + 1) W (.slice pa pn pc) x.after) (hz : z = ⟨x.name.toArray⟩) (hk : K = x.k) (hzo : zo = ⟨x.over.toArray⟩) (hwd : wd = x.width) (hqt : qt = x.quota) (hf : x.Fits) (hit : itemS nameB st = (x, st')) :
    ItemM w0 w g st (.returned (.agg #[.string z, .int .u8 ((K : Nat) : Int), .slice pa pn pc, .string zo, .int .i64 wd, .int .i64 qt])) ((((((W.setCell ⟨G2, 0, none⟩ (.string z)).setCell ⟨G2, 1, none⟩ (.int .u8 ((K : Nat) : Int))).setCell ⟨G2, 2, none⟩ (.slice pa pn pc)).setCell ⟨G2, 3, none⟩ (.string zo)).setCell ⟨G2, 4, none⟩ (.int .i64 wd)).setCell ⟨G2, 5, none⟩ (.int .i64 qt)) := by
  have l2 := h.l2
  have l3 := h.l3
  have lg := h.lg
  have lw := h.lw
  have hu := set6_but h.bu l2 (.string z) (.int .u8 ((K : Nat) : Int)) (.slice pa pn pc) (.string zo) (.int .i64 wd) (.int .i64 qt)
  have hS2 : StrsO (G3 + 1) ((((((W.setCell ⟨G2, 0, none⟩ (.string z)).setCell ⟨G2, 1, none⟩ (.int .u8 ((K : Nat) : Int))).setCell ⟨G2, 2, none⟩ (.slice pa pn pc)).setCell ⟨G2, 3, none⟩ (.string zo)).setCell ⟨G2, 4, none⟩ (.int .i64 wd)).setCell ⟨G2, 5, none⟩ (.int .i64 qt)) (.slice pa pn pc) x.after := hS.kept fun k hk => set6_other (by have := hS.new k hk; omega) _ _ _ _ _ _
  have hw0 : Below w0.heap.size w0 w := by
    have hb := h.rd.below
    have hn := h.rd.new
    exact ⟨hb.os ▸ h.bu.os ▸ rfl, hb.tape ▸ h.bu.tape ▸ rfl, hb.output ▸ h.bu.output ▸ rfl, lw, fun k hk => by rw [← hb.block k hk, h.bu.block k (by omega) (by omega)]⟩
  refine ⟨z, K, pa, pn, pc, zo, wd, qt, rfl, ?_, ?_, hu⟩
  · rw [hit]
    obtain ⟨a, c, hv, h1, h2, h3⟩ := hS2.at
    simp only [Value.slice.injEq] at hv
    obtain ⟨rfl, rfl, rfl⟩ := hv
    refine ⟨pa, pc, ?_, hf, h1, h2, h3.kept (fun _ _ _ => rfl) (fun k hk _ => ⟨by have := hk.1.1; omega, hk.1.2⟩)⟩
    rw [hz, hk, hzo, hwd, hqt]
    rfl
  · rw [hit]
    exact h.rd.kept (hu.below hw0 h.rd.new) (set6_other (by omega) _ _ _ _ _ _)
theorem StrsO.wider {B0 B1 : Nat} {W : World} {r : Value} {l : List (List UInt8)} (h : StrsO B0 W r l) (hb : B1 ≤ B0) : StrsO B1 W r l := ⟨h.row, fun k hk => Nat.le_trans hb (h.new k hk), h.len⟩
theorem StrsO.set {B0 : Nat} {W : World} {r : Value} {l : List (List UInt8)} (h : StrsO B0 W r l) {p : Addr} (hp : p.block < B0) (v : Value) : StrsO B0 (W.setCell p v) r l := h.kept fun k hk => Below.heap_setCell _ _ _ _ (by have := h.new k hk; omega)

set_option maxRecDepth 100000 in
set_option maxHeartbeats 2000000 in
theorem fItem_any (w0 : World) (g : Nat) (st : Option (List UInt8)) (w : World) (h : RdF w0 g st w) : Calls Tryz.prog 85 #[.pointer (some ⟨g, 0, none⟩)] w (ItemM w0 w g st) := by
  obtain ⟨W1, hW1⟩ : ∃ W1, W1 = w.alloc (.cells #[.string ⟨#[]⟩, .int .u8 0, .slice none 0 0, .string ⟨#[]⟩, .int .i64 0, .int .i64 0] 62) := ⟨_, rfl⟩
  have hb1 : Below w.heap.size w W1 := by rw [hW1]; exact (Below.refl _ w).alloc (Nat.le_refl _) _
  have hr1 : W1.heap[w.heap.size]? = some (.cells #[.string ⟨#[]⟩, .int .u8 0, .slice none 0 0, .string ⟨#[]⟩, .int .i64 0, .int .i64 0] 62 (0, 0)) := by rw [hW1]; exact heap_alloc_new w _
  have HN := hide (fNameR_any w0 g st W1 (h.later hb1))
  have hlg := h.lt
  have HLW := hide h.below.size
  have HR1 := hide hr1
  have HB1 := hide hb1
  have HW1 := hide hW1
  obtain ⟨sa, hsa⟩ : ∃ s, s = textS nameB st := ⟨_, rfl⟩
  obtain ⟨sb, hsb⟩ : ∃ s, s = numS 1 sa.2 := ⟨_, rfl⟩
  obtain ⟨sc, hsc⟩ : ∃ s, s = numS 20 sb.2 := ⟨_, rfl⟩
  obtain ⟨sd, hsd⟩ : ∃ s, s = listS (textS nameB) sc.1 sc.2 := ⟨_, rfl⟩
  obtain ⟨se, hse⟩ : ∃ s, s = numS 400 sd.2 := ⟨_, rfl⟩
  obtain ⟨sf, hsf⟩ : ∃ s, s = textS nameB se.2 := ⟨_, rfl⟩
  obtain ⟨sg, hsg⟩ : ∃ s, s = numS 40 sf.2 := ⟨_, rfl⟩
  have HIT : Hid (itemS nameB st = if sb.1 = 1 then (⟨sa.1, sb.1, sd.1, sf.1, ((sg.1 : Nat) : Int), ((se.1 : Nat) : Int)⟩, sg.2) else (⟨sa.1, sb.1, sd.1, [], 0, ((se.1 : Nat) : Int)⟩, se.2)) := by
    show _ = _
    rw [hsg, hsf, hse, hsd, hsc, hsb, hsa]
    rfl
  rw [← hsa] at HN
  have HC2 : Hid (∀ W, RdF w0 g sa.2 W → Calls Tryz.prog 111 #[.pointer (some ⟨g, 0, none⟩), .int .i64 1] W fun e W' => ∃ N : Nat, e = .returned (.int .i64 ((N : Nat) : Int)) ∧ N = sb.1 ∧ N ≤ 1 ∧ RdF w0 g sb.2 W' ∧ ButF g W W') := fun W hW => by rw [hsb]; exact fNumber_any w0 g 1 sa.2 W hW
  have HC3 : Hid (∀ W, RdF w0 g sb.2 W → Calls Tryz.prog 113 #[.pointer (some ⟨g, 0, none⟩), .int .i64 20, .func (.func 112) #[.pointer (some ⟨g, 0, none⟩)] #[]] W fun e W' => ∃ (ra : Option Addr) (rn rc : Nat), e = .returned (.slice ra rn rc) ∧ rn = sc.1 ∧ StrsO W.heap.size W' (.slice ra rn rc) sd.1 ∧ RdF w0 g sd.2 W' ∧ ButF g W W') := fun W hW => by rw [hsd, hsc]; exact takeStrs_any w0 g 20 sb.2 W (by omega) hW
  have HC4 : Hid (∀ W, RdF w0 g sd.2 W → Calls Tryz.prog 111 #[.pointer (some ⟨g, 0, none⟩), .int .i64 400] W fun e W' => ∃ N : Nat, e = .returned (.int .i64 ((N : Nat) : Int)) ∧ N = se.1 ∧ N ≤ 400 ∧ RdF w0 g se.2 W' ∧ ButF g W W') := fun W hW => by rw [hse]; exact fNumber_any w0 g 400 sd.2 W hW
  have HC5 : Hid (∀ W, RdF w0 g se.2 W → Calls Tryz.prog 112 #[.pointer (some ⟨g, 0, none⟩)] W fun e W' => ∃ z : ByteArray, e = .returned (.string z) ∧ z = ⟨sf.1.toArray⟩ ∧ sf.1.length ≤ 20 ∧ RdF w0 g sf.2 W' ∧ ButF g W W') := fun W hW => by rw [hsf]; exact fNameR_any w0 g se.2 W hW
  have HC6 : Hid (∀ W, RdF w0 g sf.2 W → Calls Tryz.prog 111 #[.pointer (some ⟨g, 0, none⟩), .int .i64 40] W fun e W' => ∃ N : Nat, e = .returned (.int .i64 ((N : Nat) : Int)) ∧ N = sg.1 ∧ N ≤ 40 ∧ RdF w0 g sg.2 W' ∧ ButF g W W') := fun W hW => by rw [hsg]; exact fNumber_any w0 g 40 sf.2 W hW
  have HLD : Hid (sd.1.length = sc.1) := by show _ = _; rw [hsd]; exact listS_len _ _ _
  clear h hb1 hr1 hW1 hsa hsb hsc hsd hse hsf hsg
  go_enter Tryz.func85, Tryz.ntmps85
  go_upto_region 1 with fail
  rw [← unhide HW1]
  clear HW1
  go_wp2_with fail
  refine (unhide HN).mono ?_
  rintro e W2 ⟨z, rfl, hz, hz20, hR2, hU2⟩
  obtain ⟨W3, hW3⟩ : ∃ W3, W3 = W2.alloc (.cells #[.string z, .int .u8 0, .slice none 0 0, .string ⟨#[]⟩, .int .i64 0, .int .i64 0] 62) := ⟨_, rfl⟩
  have hb3 : Below W2.heap.size W2 W3 := by rw [hW3]; exact (Below.refl _ _).alloc (Nat.le_refl _) _
  have hr3 : W3.heap[W2.heap.size]? = some (.cells #[.string z, .int .u8 0, .slice none 0 0, .string ⟨#[]⟩, .int .i64 0, .int .i64 0] 62 (0, 0)) := by rw [hW3]; exact heap_alloc_new _ _
  have HI3 : Hid (ItF w0 w g w.heap.size W2.heap.size #[.string z, .int .u8 0, .slice none 0 0, .string ⟨#[]⟩, .int .i64 0, .int .i64 0] sa.2 W3) := by
    have hu : ButF g W1 W3 := hU2.trans (ButF.of hb3)
    have hs1 := (Array.getElem?_eq_some_iff.1 (unhide HR1)).1
    exact ⟨hR2.later hb3, (ButF.of (unhide HB1)).trans hu, (hu.block _ hs1 (by omega)).trans (unhide HR1), hr3, Nat.le_refl _, Nat.lt_of_lt_of_le hs1 hU2.size, hlg, unhide HLW⟩
  have HZ : Hid (z = ⟨sa.1.toArray⟩ ∧ sa.1.length ≤ 20) := ⟨hz, hz20⟩
  have HW3 := hide hW3
  clear hz hz20 hR2 hU2 hb3 hr3 hW3 HR1 HB1 HN
  go_upto_region 2 with fail
  rw [← unhide HW3]
  clear HW3
  obtain ⟨⟨c0, c1, c2, c3, c4, c5⟩, fz⟩ := (unhide HI3).cells
  go_wp2_with fail
  refine (unhide HC2 _ (unhide HI3).rd).mono ?_
  rintro e W4 ⟨K, rfl, hK, hK1, hR4, hU4⟩
  have HI4 := hide ((unhide HI3).but hU4 hR4)
  clear c0 c1 c2 c3 c4 c5 fz hR4 hU4 HI3
  obtain ⟨⟨c0, c1, c2, c3, c4, c5⟩, fz⟩ := (unhide HI4).cells
  have f1 := fz 1
  have hwK : IntKind.u8.wrap ((K : Nat) : Int) = ((K : Nat) : Int) := by rw [IntKind.wrap_u8]; omega
  have HI5 : Hid (ItF w0 w g w.heap.size W2.heap.size #[.string z, .int .u8 ((K : Nat) : Int), .slice none 0 0, .string ⟨#[]⟩, .int .i64 0, .int .i64 0] sb.2 (W4.setCell ⟨W2.heap.size, 1, none⟩ (.int .u8 ((K : Nat) : Int)))) := (unhide HI4).set 1 _
  have HKE := hide hK
  clear hK HI4
  go_wp2_with fail
  refine (unhide HC3 _ (unhide HI5).rd).mono ?_
  rintro e W5 ⟨ra, rn, rc, rfl, hrn, hS5, hR5, hU5⟩
  have HI6 := hide ((unhide HI5).but hU5 hR5)
  have HS6 : Hid (StrsO (W2.heap.size + 1) W5 (.slice ra rn rc) sd.1) := hS5.wider (Array.getElem?_eq_some_iff.1 (unhide HI5).b3).1
  have HRN := hide hrn
  clear c0 c1 c2 c3 c4 c5 fz f1 hR5 hU5 hS5 hrn HI5
  obtain ⟨⟨c0, c1, c2, c3, c4, c5⟩, fz⟩ := (unhide HI6).cells
  have f2 := fz 2
  have HI7 : Hid (ItF w0 w g w.heap.size W2.heap.size #[.string z, .int .u8 ((K : Nat) : Int), .slice ra rn rc, .string ⟨#[]⟩, .int .i64 0, .int .i64 0] sd.2 (W5.setCell ⟨W2.heap.size, 2, none⟩ (.slice ra rn rc))) := (unhide HI6).set 2 _
  have HS7 := hide ((unhide HS6).set (p := ⟨W2.heap.size, 2, none⟩) (by show W2.heap.size < W2.heap.size + 1; omega) (.slice ra rn rc))
  clear HI6 HS6
  go_wp2_with fail
  refine (unhide HC4 _ (unhide HI7).rd).mono ?_
  rintro e W6 ⟨Q, rfl, hQ, hQ4, hR6, hU6⟩
  have HI8 := hide ((unhide HI7).but hU6 hR6)
  have HS8 : Hid (StrsO (W2.heap.size + 1) W6 (.slice ra rn rc) sd.1) := (unhide HS7).but hU6 (by have := (unhide HI7).l2; have := (unhide HI7).l3; have := (unhide HI7).lg; omega)
  have HQE := hide hQ
  clear c0 c1 c2 c3 c4 c5 fz f2 hR6 hU6 hQ HI7 HS7
  obtain ⟨⟨c0, c1, c2, c3, c4, c5⟩, fz⟩ := (unhide HI8).cells
  have f5 := fz 5
  have HI9 : Hid (ItF w0 w g w.heap.size W2.heap.size #[.string z, .int .u8 ((K : Nat) : Int), .slice ra rn rc, .string ⟨#[]⟩, .int .i64 0, .int .i64 ((Q : Nat) : Int)] se.2 (W6.setCell ⟨W2.heap.size, 5, none⟩ (.int .i64 ((Q : Nat) : Int)))) := (unhide HI8).set 5 _
  have HS9 := hide ((unhide HS8).set (p := ⟨W2.heap.size, 5, none⟩) (by show W2.heap.size < W2.heap.size + 1; omega) (.int .i64 ((Q : Nat) : Int)))
  have HQ4 := hide hQ4
  clear HI8 HS8 hQ4
  by_cases k1 : K = 1
  · have g1 : (((K : Nat) : Int) == 1) = true := by rw [beq_iff_eq]; omega
    have HIT1 : Hid (itemS nameB st = (⟨sa.1, sb.1, sd.1, sf.1, ((sg.1 : Nat) : Int), ((se.1 : Nat) : Int)⟩, sg.2)) := by show _ = _; rw [unhide HIT, if_pos (by rw [← unhide HKE]; exact k1)]
    clear k1 HIT
    go_wp2_with fail
    refine (unhide HC5 _ (unhide HI9).rd).mono ?_
    rintro e W7 ⟨zo, rfl, hzo, ho20, hR7, hU7⟩
    have HI10 := hide ((unhide HI9).but hU7 hR7)
    have HS10 : Hid (StrsO (W2.heap.size + 1) W7 (.slice ra rn rc) sd.1) := (unhide HS9).but hU7 (by have := (unhide HI9).l2; have := (unhide HI9).l3; have := (unhide HI9).lg; omega)
    have HZO : Hid (zo = ⟨sf.1.toArray⟩ ∧ sf.1.length ≤ 20) := ⟨hzo, ho20⟩
    clear c0 c1 c2 c3 c4 c5 fz f5 hR7 hU7 hzo ho20 HI9 HS9
    obtain ⟨⟨c0, c1, c2, c3, c4, c5⟩, fz⟩ := (unhide HI10).cells
    have f3 := fz 3
    have HI11 : Hid (ItF w0 w g w.heap.size W2.heap.size #[.string z, .int .u8 ((K : Nat) : Int), .slice ra rn rc, .string zo, .int .i64 0, .int .i64 ((Q : Nat) : Int)] sf.2 (W7.setCell ⟨W2.heap.size, 3, none⟩ (.string zo))) := (unhide HI10).set 3 _
    have HS11 := hide ((unhide HS10).set (p := ⟨W2.heap.size, 3, none⟩) (by show W2.heap.size < W2.heap.size + 1; omega) (.string zo))
    clear HI10 HS10
    go_wp2_with fail
    refine (unhide HC6 _ (unhide HI11).rd).mono ?_
    rintro e W8 ⟨D, rfl, hD, hD4, hR8, hU8⟩
    have HI12 := hide ((unhide HI11).but hU8 hR8)
    have HS12 : Hid (StrsO (W2.heap.size + 1) W8 (.slice ra rn rc) sd.1) := (unhide HS11).but hU8 (by have := (unhide HI11).l2; have := (unhide HI11).l3; have := (unhide HI11).lg; omega)
    have HDE : Hid (D = sg.1 ∧ D ≤ 40) := ⟨hD, hD4⟩
    clear c0 c1 c2 c3 c4 c5 fz f3 hR8 hU8 hD hD4 HI11 HS11
    obtain ⟨⟨c0, c1, c2, c3, c4, c5⟩, fz⟩ := (unhide HI12).cells
    have f4 := fz 4
    have HI13 : Hid (ItF w0 w g w.heap.size W2.heap.size #[.string z, .int .u8 ((K : Nat) : Int), .slice ra rn rc, .string zo, .int .i64 ((D : Nat) : Int), .int .i64 ((Q : Nat) : Int)] sg.2 (W8.setCell ⟨W2.heap.size, 4, none⟩ (.int .i64 ((D : Nat) : Int)))) := (unhide HI12).set 4 _
    have HS13 := hide ((unhide HS12).set (p := ⟨W2.heap.size, 4, none⟩) (by show W2.heap.size < W2.heap.size + 1; omega) (.int .i64 ((D : Nat) : Int)))
    obtain ⟨W9, hW9⟩ : ∃ W9, W9 = W8.setCell ⟨W2.heap.size, 4, none⟩ (.int .i64 ((D : Nat) : Int)) := ⟨_, rfl⟩
    rw [← hW9] at HI13 HS13
    have HW9 := hide hW9
    clear HI12 HS12 hW9
    go_upto_region 8 with fail
    rw [← unhide HW9]
    clear c0 c1 c2 c3 c4 c5 fz f4 HW9
    obtain ⟨⟨c0, c1, c2, c3, c4, c5⟩, -⟩ := (unhide HI13).cells
    obtain ⟨m0, m1, m2, m3, m4, m5⟩ := cells6 (unhide HI13).b2
    have fm : ∀ i, W9.frozen? ⟨w.heap.size, i, none⟩ = false := fun i => frozen_of_row _ _ _ _ _ (unhide HI13).b2
    go_wp2_with fail
    refine bodyPost_ret (results_cvF rfl _ _ _ _ _ _ _ rfl (set6_heap (unhide HI13).b2 _ _ _ _ _ _) Tryz.underlying62 rfl (by kernel_rfl)) rfl ?_
    exact item_done (x := ⟨sa.1, sb.1, sd.1, sf.1, ((sg.1 : Nat) : Int), ((se.1 : Nat) : Int)⟩) (unhide HI13) (unhide HS13) (unhide HZ).1 (unhide HKE) (unhide HZO).1 (by rw [(unhide HDE).1]) (by rw [unhide HQE]) ⟨by have := (unhide HZ).2; unfold maxLen; show sa.1.length ≤ _; omega, by have := unhide HKE; show sb.1 < 256; omega, by have := (unhide HZO).2; unfold maxLen; show sf.1.length ≤ _; omega, by have := unhide HDE; show InR ((sg.1 : Nat) : Int); unfold InR; omega, by have := unhide HQ4; have := unhide HQE; show InR ((se.1 : Nat) : Int); unfold InR; omega⟩ (unhide HIT1)
  · have g1 : (((K : Nat) : Int) == 1) = false := by rw [beq_eq_false_iff_ne]; omega
    have HIT1 : Hid (itemS nameB st = (⟨sa.1, sb.1, sd.1, [], 0, ((se.1 : Nat) : Int)⟩, se.2)) := by show _ = _; rw [unhide HIT, if_neg (by rw [← unhide HKE]; exact k1)]
    obtain ⟨W9, hW9⟩ : ∃ W9, W9 = W6.setCell ⟨W2.heap.size, 5, none⟩ (.int .i64 ((Q : Nat) : Int)) := ⟨_, rfl⟩
    rw [← hW9] at HI9 HS9
    have HW9 := hide hW9
    clear k1 HIT hW9
    go_upto_region 5 with fail
    rw [← unhide HW9]
    clear c0 c1 c2 c3 c4 c5 fz f5 HW9
    obtain ⟨⟨c0, c1, c2, c3, c4, c5⟩, -⟩ := (unhide HI9).cells
    obtain ⟨m0, m1, m2, m3, m4, m5⟩ := cells6 (unhide HI9).b2
    have fm : ∀ i, W9.frozen? ⟨w.heap.size, i, none⟩ = false := fun i => frozen_of_row _ _ _ _ _ (unhide HI9).b2
    go_wp2_with fail
    refine bodyPost_ret (results_cvF rfl _ _ _ _ _ _ _ rfl (set6_heap (unhide HI9).b2 _ _ _ _ _ _) Tryz.underlying62 rfl (by kernel_rfl)) rfl ?_
    exact item_done (x := ⟨sa.1, sb.1, sd.1, [], 0, ((se.1 : Nat) : Int)⟩) (unhide HI9) (unhide HS9) (unhide HZ).1 (unhide HKE) rfl rfl (by rw [unhide HQE]) ⟨by have := (unhide HZ).2; unfold maxLen; show sa.1.length ≤ _; omega, by have := unhide HKE; show sb.1 < 256; omega, Nat.zero_le _, by show InR 0; unfold InR; omega, by have := unhide HQ4; have := unhide HQE; show InR ((se.1 : Nat) : Int); unfold InR; omega⟩ (unhide HIT1)
end Go.Proofs.YtdlbpbglidhlfaaGreatDoor
