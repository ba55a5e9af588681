/- What TakeNum of package wire answers. No statement of the seat is proved here. -/
import Derived.Test.YtifnjdplbdpelaaWireImplE
import Derived.Test.YtifnjdplbdpelaaWireCut
namespace Go.Proofs.Ytifnjdplbdpelaa
open Go.RowKit Go.Shelf Go.Lib

/-- What TakeNum tells of bytes. -/
def TookNum (a : Option Addr) (n : Nat) (bs : List UInt8) (e : Ending) : Prop :=
  (∃ (x : Int) (k : Nat), Reads bs x k ∧ e = .returned (.tuple #[.int .i64 x, .slice (wcutA a n k) (n - k) (n - k), .int .i64 0])) ∨ (NoNum bs ∧ e = .returned (.tuple #[.int .i64 0, .slice none 0 0, .int .i64 30]))

set_option maxRecDepth 100000 in
set_option maxHeartbeats 2000000 in
theorem takeNum_any (a : Option Addr) (n c : Nat) (bs : List UInt8) (w : World) (h : Bytes w (.slice a n c) bs) (hl : n ≤ 1048576) : Calls Try.prog 9 #[.slice a n c] w fun e w' => TookNum a n bs e ∧ Below w.heap.size w w' := by
  obtain ⟨hbl, hnc⟩ := bytes_len h
  obtain ⟨m, hm⟩ : ∃ m, m = min n 10 := ⟨_, rfl⟩
  have hmm : min (n : Int) 10 = ((m : Nat) : Int) := by omega
  have hm10 : m ≤ 10 := by omega
  have hmn : m ≤ n := by omega
  have hbm := h.take (m := m) hmn hbl
  obtain ⟨q, q'⟩ := head_run (a := a) (n := n) (c := c) (h := m) (by omega)
  have HH := hide h
  have HBL := hide hbl
  have HBM := hide hbm
  have HM := hide hm
  have hml : (bs.take m).length = m := by rw [List.length_take]; omega
  have HML := hide hml
  have HNC := hide hnc
  have HL := hide hl
  clear h hbl hbm hm hml hl
  go_enter Try.func9, Try.ntmps9
  go_wp2_with (refine wpList_min2 rfl (.tmp 10) (.const (.int .i64 10)) 3 3 rfl _ _ _ _ rfl rfl ?_; rw [hmm])
  go_wp2_with fail
  refine (indexFunc_any (.slice a m c) (bs.take m) _ (unhide HBM) (by have := unhide HML; omega)).mono ?_
  rintro e w1 ⟨⟨i, hi, rfl⟩, hw⟩
  rw [hw]
  clear hw w1
  rcases hi with ⟨p, y, r, he, hp, hy, rfl⟩ | ⟨hH, rfl⟩
  · obtain ⟨k, hk⟩ : ∃ k, k = p.length + 1 := ⟨_, rfl⟩
    have hkm : k ≤ m := by have h1 := congrArg List.length he; rw [unhide HML] at h1; simp at h1; omega
    have hbs : bs = p ++ y :: (r ++ bs.drop m) := by
      have h1 := List.take_append_drop m bs
      rw [he] at h1
      exact h1.symm.trans (by simp)
    have htk : bs.take k = p ++ [y] := by
      rw [hbs, hk, show p ++ y :: (r ++ bs.drop m) = (p ++ [y]) ++ (r ++ bs.drop m) by simp]
      exact List.take_left' (by simp)
    have HP := hide hp
    have HY := hide hy
    have HBS := hide hbs
    have HTK := hide htk
    have HKL : Hid ((bs.take k).length = k) := by show _ = _; rw [htk, hk]; simp
    have hbk := (unhide HH).take (m := k) (by omega) (unhide HBL)
    have HBK := hide hbk
    obtain ⟨q1, q1'⟩ := head_run (a := a) (n := n) (c := c) (h := k) (by omega)
    have hk1 : ((p.length : Nat) : Int) + 1 = ((k : Nat) : Int) := by omega
    have hk0 : ((k : Nat) : Int) ≠ 0 := by omega
    have hkn : ((k : Nat) : Int) ≤ (c : Nat) := by omega
    have HK := hide hk
    clear he hp hy hbs htk hbk hk
    have HJL := hide (jn_lt64 (bs.take k))
    have HIN := hide (unz_in (jn_lt64 (bs.take k)))
    have HTEN := hide (numB_ten (unz_in (jn_lt64 (bs.take k))))
    obtain ⟨wA, hwA⟩ : ∃ wA, wA = w.alloc (.cells #[.int .u8 0, .int .u8 0, .int .u8 0, .int .u8 0, .int .u8 0, .int .u8 0, .int .u8 0, .int .u8 0, .int .u8 0, .int .u8 0] 51) := ⟨_, rfl⟩
    have HR : Hid (Room w 51 w.heap.size 10 [] wA) := by
      rw [hwA]
      exact ⟨⟨_, heap_alloc_new w _, rfl, by simp⟩, by simp, by unfold maxLen; omega, Nat.le_refl _, (Below.refl _ w).alloc (Nat.le_refl _) _⟩
    have HWA := hide hwA
    clear hwA
    go_upto_region 4 with fail
    go_wp2_with fail
    refine (joined_any (.slice a k c) (bs.take k) _ (unhide HBK) (by have := unhide HKL; omega)).mono ?_
    rintro e w1 ⟨rfl, hw⟩
    rw [hw]
    clear hw w1
    go_wp2_with fail
    refine (unfolded_any _ (unhide HJL) _).mono ?_
    rintro e w1 ⟨rfl, hw⟩
    rw [hw]
    clear hw w1
    have HX : Hid (zz (unz (jn64 (bs.take k))) = jn64 (bs.take k)) := zz_unz _
    generalize unz (jn64 (bs.take k)) = x at *
    go_upto_region 6 with fail
    rw [← unhide HWA]
    have HLN : Hid (([] : List UInt8).length + (numB x).length ≤ 10) := by show _ ≤ _; simpa using unhide HTEN
    have hkn2 : k ≤ n := by omega
    obtain ⟨q2, q2'⟩ := cut_run (a := a) (n := n) (c := c) (k := k) hkn2 hnc
    by_cases hq : numB x = bs.take k
    · have hd : decide (numB x = bs.take k) = true := decide_eq_true hq
      have HQ := hide hq
      clear hq
      go_cut [29] (fun v wx => v = .bool false ∧ Below w.heap.size w wx)
      case first =>
        go_region_with (first
          | (go_at_call 24; refine (wPutNumber_any w _ w.heap.size 10 [] x (unhide HIN) _ (by exact (unhide HR).drew) (unhide HLN) (by simp)).mono ?_; rintro e w2 ⟨rfl, hR2⟩)
          | (go_at_call 23; refine (bytesEqual_any _ _ (numB x) (bs.take k) _ (by simpa using hR2.bytes) ((unhide HBK).laterW (by exact hR2.bb))).mono ?_; rintro e w3 ⟨rfl, hw3⟩; rw [hw3]; clear hw3; rw [hd]))
        all_goals (
          have HBB := hide hR2.bb
          clear hR2 hd
          go_wp2_with fail
          go_meet
          exact ⟨rfl, unhide HBB⟩)
      obtain ⟨rfl, hb⟩ := hcut
      have HBB := hide hb
      clear hb hd
      go_upto_region 8 with fail
      go_quiet (fail)
      go_wp2_with fail
      go_ret3
      refine ⟨.inl ⟨x, k, ⟨unhide HIN, ?_, ?_⟩, rfl⟩, (unhide HBB).trans ((below_drewN _ _).mono (unhide HBB).size)⟩
      · rw [unhide HQ]; exact (unhide HKL).symm
      · rw [unhide HQ, List.take_append_drop]
    · have hd : decide (numB x = bs.take k) = false := decide_eq_false hq
      have HQ := hide hq
      clear hq
      go_cut [29] (fun v wx => v = .bool true ∧ Below w.heap.size w wx)
      case first =>
        go_region_with (first
          | (go_at_call 24; refine (wPutNumber_any w _ w.heap.size 10 [] x (unhide HIN) _ (by exact (unhide HR).drew) (unhide HLN) (by simp)).mono ?_; rintro e w2 ⟨rfl, hR2⟩)
          | (go_at_call 23; refine (bytesEqual_any _ _ (numB x) (bs.take k) _ (by simpa using hR2.bytes) ((unhide HBK).laterW (by exact hR2.bb))).mono ?_; rintro e w3 ⟨rfl, hw3⟩; rw [hw3]; clear hw3; rw [hd]))
        all_goals (
          have HBB := hide hR2.bb
          clear hR2 hd
          go_wp2_with fail
          go_meet
          exact ⟨rfl, unhide HBB⟩)
      obtain ⟨rfl, hb⟩ := hcut
      have HBB := hide hb
      clear hb hd
      go_wp2_with fail
      go_ret3
      refine ⟨.inr ⟨fun x' k' hr => ?_, rfl⟩, unhide HBB⟩
      obtain ⟨p', y', e1, e2, h3, h4, _, h5⟩ := hr.form
      obtain ⟨rfl, rfl, _⟩ := highs_same (unhide HP) h3 (unhide HY) h4 ((unhide HBS).symm.trans e1)
      apply unhide HQ
      have hz := unhide HX
      rw [unhide HTK, h5] at hz ⊢
      have h6 : jn64 (numB x') = zz x' := by
        unfold jn64 numB
        rw [val_grp]
        exact Nat.mod_eq_of_lt (zz_lt hr.inr)
      rw [h6] at hz
      rw [zz_inj hz]
  · have HHI := hide hH
    clear hH
    go_wp2
    go_ret3
    refine ⟨.inr ⟨?_, rfl⟩, Below.refl _ _⟩
    exact noNum_highs (unhide HHI) (by have := unhide HM; have := unhide HBL; omega)
end Go.Proofs.Ytifnjdplbdpelaa
