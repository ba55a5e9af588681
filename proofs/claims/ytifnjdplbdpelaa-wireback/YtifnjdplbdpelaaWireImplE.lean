/- What slices.IndexFunc at isLast, bytes.Equal and TakeNum of package wire answer. No statement of the seat is proved here. -/
import Derived.Test.YtifnjdplbdpelaaWireImplD
namespace Go.Proofs.Ytifnjdplbdpelaa
open Go.RowKit Go.Shelf Go.Lib

/-- Where the first byte is that ends a number. -/
def EndAt (bs : List UInt8) (i : Int) : Prop := (∃ (p : List UInt8) (y : UInt8) (r : List UInt8), bs = p ++ y :: r ∧ Highs p ∧ y.toNat < 128 ∧ i = p.length) ∨ (Highs bs ∧ i = -1)

set_option maxRecDepth 100000 in
set_option maxHeartbeats 2000000 in
theorem indexFunc_any (u : Value) (bs : List UInt8) (w : World) (h : Bytes w u bs) (hl : bs.length ≤ 1048576) : Calls Try.prog 19 #[u, .func (.func 20) #[] #[]] w fun e w' => (∃ i : Int, EndAt bs i ∧ e = .returned (.int .i64 i)) ∧ w' = w := by
  obtain ⟨a, c, rfl, hlc⟩ := h.form
  obtain ⟨n, hn⟩ : ∃ n, n = bs.length := ⟨_, rfl⟩
  rw [← hn] at h hlc hl ⊢
  have HH := hide h
  have HN := hide hn
  clear h hn
  go_enter Try.func19, Try.ntmps19
  go_wp2
  go_loopw [8] (fun k W => ∃ j : Nat, j ≤ n ∧ k = .int .i64 j ∧ Highs (bs.take j) ∧ W = w) (fun k _ => n - (intOf k).toNat)
  case atStart => exact ⟨0, by omega, rfl, fun x hx => by simp at hx, rfl⟩
  case round =>
    obtain ⟨j, hj, rfl, hH, rfl⟩ := hrel
    have HHI := hide hH
    clear hH
    by_cases hlt : j < n
    · obtain ⟨ad, rfl, hc⟩ := (unhide HH).at hlt (unhide HN).symm
      have hk1 : (j : Int) < (n : Int) := by omega
      have HX : Hid (bs.getD j 0 = bs.getD j 0) := rfl
      have HP : Hid (bs = bs.take j ++ bs.getD j 0 :: bs.drop (j + 1)) := by
        show _ = _
        rw [List.getD_eq_getElem?_getD, List.getElem?_eq_getElem (by have := unhide HN; omega), Option.getD_some, ← List.drop_eq_getElem_cons, List.take_append_drop]
      have HL : Hid ((bs.take j).length = j) := by show _ = _; rw [List.length_take]; have := unhide HN; omega
      have HSU : Hid (bs.take (j + 1) = bs.take j ++ [bs.getD j 0]) := by
        show _ = _
        rw [List.getD_eq_getElem?_getD, List.getElem?_eq_getElem (by have := unhide HN; omega), List.take_succ_eq_append_getElem (by have := unhide HN; omega)]
        rfl
      generalize bs.getD j 0 = y at *
      go_wp2_with fail
      refine (isLast_any y.toNat _).mono ?_
      rintro e w' ⟨rfl, rfl⟩
      by_cases hy : y.toNat < 128
      · have hd : decide (y.toNat < 128) = true := decide_eq_true hy
        rw [hd]
        go_wp2
        go_ret
        exact ⟨⟨_, .inl ⟨bs.take j, y, _, unhide HP, unhide HHI, hy, by rw [unhide HL]⟩, rfl⟩, rfl⟩
      · have hd : decide (y.toNat < 128) = false := decide_eq_false hy
        rw [hd]
        go_wp2
        refine ⟨⟨j + 1, by omega, by go_num, fun x hx => ?_, trivial⟩, by simp [intOf]; omega⟩
        rw [unhide HSU] at hx
        rcases List.mem_append.1 hx with h1 | h1
        · exact unhide HHI x h1
        · rw [List.mem_singleton.1 h1]; omega
    · have e : j = n := by omega
      subst e
      have HT : Hid (bs.take j = bs) := List.take_of_length_le (by have := unhide HN; omega)
      go_wp2
      go_ret
      exact ⟨⟨_, .inr ⟨by rw [← unhide HT]; exact unhide HHI, rfl⟩, rfl⟩, rfl⟩

set_option maxHeartbeats 400000 in
theorem bytesEqual_any (u1 u2 : Value) (b1 b2 : List UInt8) (w : World) (h1 : Bytes w u1 b1) (h2 : Bytes w u2 b2) : Calls Try.prog 23 #[u1, u2] w fun e w' => e = .returned (.bool (decide (b1 = b2))) ∧ w' = w := by
  have c1 := run_convert_bytes (P := Try.prog) w 22 9 5 Try.underlying22 Try.underlying5 Try.underlying9 u1 b1 h1
  have c2 := run_convert_bytes (P := Try.prog) w 22 9 5 Try.underlying22 Try.underlying5 Try.underlying9 u2 b2 h2
  have e0 : ((⟨b1.toArray⟩ : ByteArray).toList == (⟨b2.toArray⟩ : ByteArray).toList) = decide (b1 = b2) := by
    rw [ByteArray.toList_eq, ByteArray.toList_eq, Bool.eq_iff_iff]; simp
  have HE : Hid (((⟨b1.toArray⟩ : ByteArray).toList == (⟨b2.toArray⟩ : ByteArray).toList) = decide (b1 = b2)) := e0
  clear e0 h1 h2
  generalize (⟨b1.toArray⟩ : ByteArray) = s1 at *
  generalize (⟨b2.toArray⟩ : ByteArray) = s2 at *
  go_enter Try.func23, Try.ntmps23
  go_wp2
  go_ret
  exact ⟨ret_bool HE.out, rfl⟩
end Go.Proofs.Ytifnjdplbdpelaa
