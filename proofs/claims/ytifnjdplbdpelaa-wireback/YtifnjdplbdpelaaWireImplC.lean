/- What Num, Text and joined of package wire answer, and slices.IndexFunc at isLast. No statement of the seat is proved here. -/
import Derived.Test.YtifnjdplbdpelaaWireImplB
namespace Go.Proofs.Ytifnjdplbdpelaa
open Go.RowKit Go.Shelf Go.Lib

theorem Bytes.laterW {w w' : World} {u : Value} {bs : List UInt8} (h : Bytes w u bs) (hb : Below w.heap.size w w') : Bytes w' u bs := h.kept fun k _ hk => hb.block k hk
theorem Room.lift {w0 w1 W : World} {t : TypeId} {g C : Nat} {bs : List UInt8} (h : Room w1 t g C bs W) (hb : Below w0.heap.size w0 w1) : Room w0 t g C bs W :=
  ⟨h.own, h.le, h.cm, Nat.le_trans hb.size h.new, hb.trans (h.bb.mono hb.size)⟩

set_option maxHeartbeats 1000000 in
theorem wNum_any (u : Value) (bs : List UInt8) (n : Int) (hn : InR n) (w : World) (h : Bytes w u bs) (hl : bs.length ≤ 1048576) : Calls Try.prog 14 #[u, .int .i64 n] w fun e w' => ∃ v, e = .returned v ∧ Own w v (bs ++ numB n) w' := by
  have HN := hide hn
  have HT := hide (numB_ten hn)
  have HH := hide h
  have HL := hide hl
  clear hn h hl
  go_enter Try.func14, Try.ntmps14
  go_wp2_with fail
  refine (size_any n (unhide HN) _).mono ?_
  rintro e w1 ⟨rfl, hb1⟩
  have HB1 := hide hb1
  clear hb1
  have HH1 := hide ((unhide HH).laterW (unhide HB1))
  have HLL : Hid (bs.length + (numB n).length ≤ 1073741824) := by show _ ≤ _; have := unhide HT; have := unhide HL; omega
  go_wp2_with fail
  refine (wOwn_any u bs (numB n).length _ (unhide HH1) (unhide HLL)).mono ?_
  rintro e w2 ⟨rfl, hr⟩
  have HR := hide (hr.lift (unhide HB1))
  clear hr
  go_wp2_with fail
  refine (wPutNumber_any w _ w1.heap.size (bs.length + (numB n).length) bs n (unhide HN) _ (unhide HR) (Nat.le_refl _) (by have := unhide HL; omega)).mono ?_
  rintro e w3 ⟨rfl, hr⟩
  have HR3 := hide hr
  clear hr
  go_wp2
  go_ret
  refine ⟨_, rfl, ?_⟩
  have := (unhide HR3).isOwn
  rwa [List.length_append] at this

set_option maxHeartbeats 1000000 in
theorem wText_any (u : Value) (bs s : List UInt8) (w : World) (h : Bytes w u bs) (hl : bs.length ≤ 1048576) (hs : s.length ≤ 1048576) : Calls Try.prog 16 #[u, .string ⟨s.toArray⟩] w fun e w' => ∃ v, e = .returned v ∧ Own w v (bs ++ textB s) w' := by
  have hsz : (⟨s.toArray⟩ : ByteArray).size = s.length := by simp [ByteArray.size]
  obtain ⟨n, hn⟩ : ∃ n : Int, n = ((s.length : Nat) : Int) := ⟨_, rfl⟩
  have HN : Hid (InR ((s.length : Nat) : Int)) := by show InR _; unfold InR; omega
  have HT := hide (numB_ten (unhide HN))
  have HH := hide h
  have HL := hide hl
  have HS := hide hs
  have HTB : Hid (textB s = numB ((s.length : Nat) : Int) ++ s) := rfl
  clear hn h hl
  obtain ⟨i, hi, hz0, hz1, hz2⟩ := infoByte
  obtain ⟨z, hz⟩ : ∃ z : ByteArray, z = ⟨s.toArray⟩ := ⟨_, rfl⟩
  rw [← hz] at hsz ⊢
  have HZ := hide hz
  clear hz
  go_enter Try.func16, Try.ntmps16
  go_wp2_with fail
  refine (size_any _ (unhide HN) _).mono ?_
  rintro e w1 ⟨rfl, hb1⟩
  have HB1 := hide hb1
  clear hb1
  have HH1 := hide ((unhide HH).laterW (unhide HB1))
  obtain ⟨m, hm⟩ : ∃ m, m = (numB ((s.length : Nat) : Int)).length + s.length := ⟨_, rfl⟩
  have HM := hide hm
  have hmm : (((numB ((s.length : Nat) : Int)).length : Nat) : Int) + ((s.length : Nat) : Int) = ((m : Nat) : Int) := by omega
  have hm30 : ((m : Nat) : Int) ≤ 1073741824 := by have := unhide HT; omega
  have HLL : Hid (bs.length + m ≤ 1073741824) := by show _ ≤ _; have := unhide HT; have := unhide HL; omega
  clear hm
  go_wp2_with fail
  refine (wOwn_any u bs m _ (unhide HH1) (unhide HLL)).mono ?_
  rintro e w2 ⟨rfl, hr⟩
  have HR := hide (hr.lift (unhide HB1))
  clear hr
  go_wp2_with fail
  refine (wPutNumber_any w _ w1.heap.size (bs.length + m) bs _ (unhide HN) _ (unhide HR) (by have := unhide HM; omega) (by have := unhide HL; omega)).mono ?_
  rintro e w3 ⟨rfl, hr⟩
  have HC3 : Hid ((bs ++ numB ((s.length : Nat) : Int)).length + s.length ≤ bs.length + m) := by show _ ≤ _; rw [List.length_append]; have := unhide HM; omega
  obtain ⟨W', hrun, hR4, _⟩ := hr.appendS (P := Try.prog) s (unhide HC3) 22 9 22 5 i Try.underlying22 Try.underlying9 hi hz1
  rw [List.length_append, ← unhide HZ] at hrun
  have HR4 := hide hR4
  have HRUN := hide hrun
  clear hr hR4 hrun
  go_wp2_with (at_builtin; refine wpList_append_run rfl _ _ 22 9 rfl _ _ _ rfl rfl (unhide HRUN) ?_)
  go_wp2
  go_ret
  refine ⟨_, rfl, ?_⟩
  have := (unhide HR4).isOwn
  rw [List.length_append, List.length_append, List.append_assoc] at this
  rw [unhide HTB]
  exact this

/-- Groups joined, but for what is above 64 bits. -/
def jn64 (bs : List UInt8) : Nat := val bs % 18446744073709551616
theorem or_part (a b k : Nat) (ha : a < 2 ^ k) : a ||| (b * 2 ^ k) = a + b * 2 ^ k := by
  have := Nat.two_pow_add_eq_or_of_lt ha b
  rw [Nat.mul_comm b, Nat.or_comm, ← this, Nat.add_comm]
end Go.Proofs.Ytifnjdplbdpelaa
