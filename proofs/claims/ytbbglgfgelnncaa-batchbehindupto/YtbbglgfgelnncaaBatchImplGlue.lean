/- The landed package batch: Glue (slices.Concat, slices.Grow). No statement of the seat is proved here. -/
import Derived.Test.YtbbglgfgelnncaaBatchOk
import Derived.Test.YtbbglgfgelnncaaGenZeros
import Derived.Test.YtbbglgfgelnncaaGenCopy
namespace Go.Proofs.Ytbbglgfgelnncaa
open Go.RowKit

set_option maxHeartbeats 1000000 in
theorem grow_any (m : Nat) (hm : m ≤ 1048576) (w : World) : Calls Try.prog 48 #[.slice none 0 0, .int .i64 ((m : Nat) : Int)] w fun e w' => ∃ v, e = .returned v ∧ Own w v [] w' := by
  by_cases h0 : m = 0
  · subst h0
    go_enter Try.func48, Try.ntmps48
    go_wp2_with fail
    go_ret
    exact ⟨_, rfl, Own.start w⟩
  · obtain ⟨ti, hti, hz0, hz1, hz2⟩ := infoByte
    have h1 : (m : Int) > 0 := by omega
    have h2 : ¬ (m : Int) < 0 := by omega
    have HO := hide (Own.start w)
    go_enter Try.func48, Try.ntmps48
    go_wp2_with (at_builtin; refine wpList_append_noughts _ rfl _ _ 23 3 rfl 5 ti .i64 .i64 Try.underlying23 Try.underlying3 hti hz0 hz1 hz2 _ [] rfl (unhide HO).own m rfl (by simp; omega) ?_)
    rintro v1 w1 r1 r2 r3
    have HF : Hid (∃ g cap, v1 = .slice (some ⟨g, 0, none⟩) m cap ∧ Own w (.slice (some ⟨g, 0, none⟩) 0 cap) [] w1) := by
      have hb : Below w.heap.size w w1 := (unhide HO).bb.grown r2 (Nat.le_refl _) fun k hk => (by cases hk)
      rcases r1.2 with ⟨_, h⟩ | ⟨g, cap, cur, e, e2, e3, e4, e5, e6, e7⟩
      · exact absurd h h0
      · refine ⟨g, cap, e, ⟨⟨by simp, .inr ⟨g, cap, cur, rfl, Nat.zero_le _, e3, Nat.zero_le _, e5, e6, by simp⟩⟩, fun k hk => ?_, hb⟩⟩
        have hk' : g = k := by simpa [Value.ownBlock] using hk
        subst hk'
        rcases r3 with e' | ⟨k', e', h'⟩
        · rw [e] at e'; cases e'
        · rw [e] at e'; cases e'; exact h'
    clear r1 r2 r3 HO
    obtain ⟨g, cap, e, hO⟩ := unhide HF
    subst e
    have HO := hide hO
    clear hO HF
    go_wp2_with fail
    go_ret
    exact ⟨_, rfl, unhide HO⟩

theorem flat_take {rows : List (List UInt8)} {j : Nat} {x : List UInt8} (hx : rows[j]? = some x) : (rows.take (j + 1)).flatten = (rows.take j).flatten ++ x := by
  obtain ⟨hj, rfl⟩ := List.getElem?_eq_some_iff.1 hx
  rw [List.take_succ_eq_append_getElem hj, List.flatten_append, List.flatten_singleton]
theorem total_le (rows : List (List UInt8)) (j : Nat) : total (rows.take j) ≤ total rows := by
  conv => rhs; rw [← List.take_append_drop j rows]
  rw [total_append]
  omega
theorem flat_total (rows : List (List UInt8)) : rows.flatten.length = total rows := by
  induction rows with
  | nil => rfl
  | cons r rows ih => rw [List.flatten_cons, List.length_append, ih]; rfl

set_option maxRecDepth 100000 in
set_option maxHeartbeats 4000000 in
theorem concat_any (u : Value) (rows : List (List UInt8)) (w : World) (h : RowsAt w u rows) (ht : total rows ≤ 1048576) (hl : rows.length ≤ 1048576) : Calls Try.prog 40 #[u] w fun e w' => ∃ v, e = .returned v ∧ Bytes w' v rows.flatten ∧ Below w.heap.size w w' := by
  obtain ⟨a, c, rfl, _⟩ := h.form
  obtain ⟨n, hn⟩ : ∃ n, n = rows.length := ⟨_, rfl⟩
  rw [← hn] at h hl ⊢
  have HH := hide h
  have HN := hide hn
  have HT := hide ht
  obtain ⟨ti, hti, hz0, hz1, hz2⟩ := infoByte
  clear h hn ht
  go_enter Try.func40, Try.ntmps40
  go_wp2_with fail
  go_loopw [3, 11] (fun s i W => ∃ j : Nat, j ≤ n ∧ i = .int .i64 j ∧ s = .int .i64 ((total (rows.take j) : Nat) : Int) ∧ W = w) (fun _ i _ => n - (intOf i).toNat)
  case atStart => exact ⟨0, Nat.zero_le _, rfl, by simp [total], rfl⟩
  case round =>
    obtain ⟨j, hj, rfl, rfl, rfl⟩ := hrel
    have HTL : Hid (∀ j, total (rows.take j) ≤ 1048576) := fun j => Nat.le_trans (total_le rows j) (unhide HT)
    by_cases hlt : j < n
    · obtain ⟨x, hx⟩ := some_get (xs := rows) (j := j) (by have := unhide HN; omega)
      obtain ⟨b1, o1, v1, e1, x1, x3⟩ := (unhide HH).at hx
      subst e1
      obtain ⟨d1, k1, ed1, _⟩ := x3.form
      subst ed1
      have i1 : (j : Int) < (n : Int) := by omega
      have HTT := hide (total_take rows hx)
      have hle := unhide HTL (j + 1)
      rw [unhide HTT] at hle
      clear x3 hx
      generalize total (rows.take j) = t0 at *
      generalize x.length = nx at *
      obtain ⟨E, hE⟩ : ∃ E, E = t0 + nx := ⟨_, rfl⟩
      have gE : (t0 : Int) + (nx : Int) = (E : Int) := by omega
      have gE2 : ¬ (E : Int) < 0 := by omega
      have gE3 : E ≤ 1048576 := by omega
      have HE := hide hE
      clear hE hle
      go_wp2_with fail
      exact ⟨⟨j + 1, by omega, by go_num, by rw [unhide HTT, ← unhide HE], by trivial⟩, by simp [intOf]; omega⟩
    · have ej : n = j := by omega
      subst ej
      have HTK : Hid (rows.take n = rows) := List.take_of_length_le (by have := unhide HN; omega)
      rw [unhide HTK]
      obtain ⟨wx, hwx⟩ : ∃ wx, wx = wr := ⟨_, rfl⟩
      subst hwx
      go_wp2_with fail
      refine (grow_any (total rows) (unhide HT) _).mono ?_
      rintro e w2 ⟨v2, rfl, hO⟩
      have HO := hide hO
      clear hO
      go_wp2_with fail
      go_loopw [6, 27] (fun v i W => ∃ j : Nat, j ≤ n ∧ i = .int .i64 j ∧ Own wx v (rows.take j).flatten W) (fun _ i _ => n - (intOf i).toNat)
      case atStart => exact ⟨0, Nat.zero_le _, rfl, unhide HO⟩
      case round =>
        obtain ⟨j, hj, rfl, hO⟩ := hrel
        have HO := hide hO
        clear hO
        by_cases hlt : j < n
        · obtain ⟨x, hx⟩ := some_get (xs := rows) (j := j) (by have := unhide HN; omega)
          obtain ⟨b1, o1, v1, e1, x1, x3⟩ := ((unhide HH).later (unhide HO).bb).at hx
          subst e1
          obtain ⟨d1, k1, ed1, _⟩ := x3.form
          subst ed1
          have i1 : (j : Int) < (n : Int) := by omega
          have X3 := hide x3
          have HFT := hide (flat_take hx)
          have HLE : Hid ((rows.take j).flatten.length + x.length ≤ 140737488355328) := by
            have := unhide HTL (j + 1)
            rw [total_take rows hx] at this
            rw [flat_total]
            show _ ≤ _
            omega
          clear x3 hx
          obtain ⟨nx, hnx⟩ : ∃ nx, nx = x.length := ⟨_, rfl⟩
          rw [← hnx] at x1 X3
          clear hnx
          go_wp2_with (at_builtin; refine wpList_append_bytes _ rfl _ _ 23 rfl 5 ti (.int .u8 0) Try.underlying23 hti hz0 hz1 hz2 rfl _ _ rfl (unhide HO).own _ _ rfl (unhide X3) (unhide HLE) ?_)
          rintro v8 w8 r1 r2 r3
          have HO4 : Hid (Own wx v8 (rows.take (j + 1)).flatten w8) := by
            have h := (unhide HO).grown (cs := (rows.take j).flatten ++ x) (by simpa using r1) r2 r3
            rw [← unhide HFT] at h
            exact h
          clear r1 r2 r3 HO
          go_wp2_with fail
          exact ⟨⟨j + 1, by omega, by go_num, unhide HO4⟩, by simp [intOf]; omega⟩
        · have ej : n = j := by omega
          subst ej
          rw [unhide HTK] at HO
          go_wp2_with fail
          go_ret
          exact ⟨_, rfl, bytes_of_owns (unhide HO).own, (unhide HO).bb⟩

theorem landGlue_any (u : Value) (rows : List (List UInt8)) (w : World) (h : RowsAt w u rows) (ht : total rows ≤ 1048576) (hl : rows.length ≤ 1048576) : Calls Try.prog 25 #[u] w fun e w' => ∃ v, e = .returned v ∧ Bytes w' v rows.flatten ∧ Below w.heap.size w w' := by
  have HH := hide h
  clear h
  go_enter Try.func25, Try.ntmps25
  go_wp2_with fail
  refine (concat_any u rows _ (unhide HH) ht hl).mono ?_
  rintro e w2 ⟨v2, rfl, hB, hb⟩
  have HB := hide hB
  have HBB := hide hb
  clear hB hb
  go_wp2_with fail
  go_ret
  exact ⟨_, rfl, unhide HB, unhide HBB⟩
end Go.Proofs.Ytbbglgfgelnncaa
