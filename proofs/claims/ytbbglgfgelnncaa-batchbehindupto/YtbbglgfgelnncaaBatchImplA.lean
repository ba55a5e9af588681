/- The landed package batch: Equal, endOf, isEnd, Long. No statement of the seat is proved here. -/
import Derived.Test.YtbbglgfgelnncaaRecImplA
import Derived.Test.YtbbglgfgelnncaaBatchOk
namespace Go.Proofs.Ytbbglgfgelnncaa
open Go.RowKit

set_option maxHeartbeats 400000 in
theorem equal_any (u1 u2 : Value) (b1 b2 : List UInt8) (w : World) (h1 : Bytes w u1 b1) (h2 : Bytes w u2 b2) : Calls Try.prog 44 #[u1, u2] w fun e w' => e = .returned (.bool (decide (b1 = b2))) ∧ w' = w := by
  have c1 := run_convert_bytes (P := Try.prog) w 23 9 5 Try.underlying23 Try.underlying5 Try.underlying9 u1 b1 h1
  have c2 := run_convert_bytes (P := Try.prog) w 23 9 5 Try.underlying23 Try.underlying5 Try.underlying9 u2 b2 h2
  have e0 : ((⟨b1.toArray⟩ : ByteArray).toList == (⟨b2.toArray⟩ : ByteArray).toList) = decide (b1 = b2) := by
    rw [ByteArray.toList_eq, ByteArray.toList_eq, Bool.eq_iff_iff]; simp
  have HE : Hid (((⟨b1.toArray⟩ : ByteArray).toList == (⟨b2.toArray⟩ : ByteArray).toList) = decide (b1 = b2)) := e0
  clear e0 h1 h2
  generalize (⟨b1.toArray⟩ : ByteArray) = s1 at *
  generalize (⟨b2.toArray⟩ : ByteArray) = s2 at *
  go_enter Try.func44, Try.ntmps44
  go_wp2
  go_ret
  exact ⟨ret_bool HE.out, rfl⟩

/-- The two bytes of a number, in a block of their own. -/
theorem two_cells (n : Nat) : #[.int .u8 ((n % 256 : Nat) : Int), .int .u8 ((n / 256 % 256 : Nat) : Int)] = ((two n).map bv).toArray := by
  have h1 : (UInt8.ofNat (n % 256)).toNat = n % 256 := by simp
  have h2 : (UInt8.ofNat (n / 256 % 256)).toNat = n / 256 % 256 := by simp
  unfold two
  simp only [List.map_cons, List.map_nil]
  show _ = #[Value.int .u8 ((UInt8.ofNat (n % 256)).toNat : Nat), Value.int .u8 ((UInt8.ofNat (n / 256 % 256)).toNat : Nat)]
  rw [h1, h2]

set_option maxHeartbeats 400000 in
theorem endOf_any (n : Nat) (w : World) : Calls Try.prog 31 #[.int .i64 ((n : Nat) : Int)] w fun e w' => e = .returned (.slice (some ⟨w.heap.size, 0, none⟩) 2 2) ∧ Bytes w' (.slice (some ⟨w.heap.size, 0, none⟩) 2 2) (two n) ∧ Below w.heap.size w w' := by
  have e1 : IntKind.u8.wrap ((n : Nat) : Int) = ((n % 256 : Nat) : Int) := by rw [IntKind.wrap_u8]; omega
  have e2 : IntKind.u8.wrap ((n / 256 : Nat) : Int) = ((n / 256 % 256 : Nat) : Int) := by rw [IntKind.wrap_u8]; omega
  have HT := hide (two_cells n)
  go_enter Try.func31, Try.ntmps31
  go_wp2
  go_ret
  refine ⟨rfl, bytes_block (bs := two n) (heap_alloc_new w _) ?_ (by show 2 ≤ 1000; omega), (Below.refl _ w).alloc (Nat.le_refl _) _⟩
  rw [← unhide HT, show ((n : Int) % 256) = ((n % 256 : Nat) : Int) by omega, show ((n : Int) / 256 % 256) = ((n / 256 % 256 : Nat) : Int) by omega]

theorem two_is {d : List UInt8} {n : Nat} (hn : n < 65536) : d = two n ↔ d.length = 2 ∧ le d = n := by
  constructor
  · rintro rfl; exact ⟨rfl, le_two hn⟩
  · rintro ⟨h2, hl⟩
    match d, h2 with
    | [x, y], _ =>
      have hx := x.toNat_lt
      have hy := y.toNat_lt
      have hl' : x.toNat + 256 * (y.toNat + 256 * 0) = n := hl
      unfold two
      have e1 : n % 256 = x.toNat := by omega
      have e2 : n / 256 % 256 = y.toNat := by omega
      rw [e1, e2]
      simp

set_option maxHeartbeats 1000000 in
theorem isEnd_any (u : Value) (d : List UInt8) (n : Nat) (hn : n ≤ 1024) (w : World) (h : Bytes w u d) : Calls Try.prog 33 #[u, .int .i64 ((n : Nat) : Int)] w fun e w' => e = .returned (.bool (decide (0 < n ∧ d.length = 2 ∧ le d = n))) ∧ Below w.heap.size w w' := by
  have HH := hide h
  clear h
  by_cases h0 : n = 0
  · subst h0
    go_enter Try.func33, Try.ntmps33
    go_wp2_with fail
    go_ret
    exact ⟨by simp, Below.refl _ w⟩
  · have h0' : (n : Int) > 0 := by omega
    have HD : Hid (decide (d = two n) = decide (0 < n ∧ d.length = 2 ∧ le d = n)) := by
      show decide _ = decide _
      have := two_is (d := d) (n := n) (by omega)
      rw [Bool.eq_iff_iff, decide_eq_true_iff, decide_eq_true_iff, this]
      constructor
      · exact fun h => ⟨by omega, h⟩
      · exact fun h => h.2
    go_enter Try.func33, Try.ntmps33
    go_wp2_with fail
    refine (endOf_any n _).mono ?_
    rintro e w1 ⟨rfl, hB, hb⟩
    have HB := hide hB
    have HBB := hide hb
    have HU := hide ((unhide HH).later hb)
    clear hB hb
    go_wp2_with fail
    refine (equal_any _ _ _ _ _ (unhide HU) (unhide HB)).mono ?_
    rintro e w2 ⟨rfl, rfl⟩
    rw [unhide HD]
    obtain ⟨r, hr⟩ : ∃ r, r = decide (0 < n ∧ d.length = 2 ∧ le d = n) := ⟨_, rfl⟩
    rw [← hr]
    have HR := hide hr
    clear hr
    go_wp2_with fail
    go_ret
    exact ⟨by rw [← unhide HR]; rfl, unhide HBB⟩

/-- How many bytes the rows' records have. -/
theorem dats_sum (rows : List (List UInt8)) {j : Nat} {x : List UInt8} (hx : rows[j]? = some x) : (puts ((rows.take (j + 1)).map dat)).length = (puts ((rows.take j).map dat)).length + (9 + x.length) := by
  rw [map_take_succ hx, puts_snoc, List.length_append, put_len]
  rfl

set_option maxRecDepth 100000 in
set_option maxHeartbeats 4000000 in
theorem landLong_any (u : Value) (rows : List (List UInt8)) (w : World) (h : RowsAt w u rows) : Calls Try.prog 13 #[u] w fun e w' => e = .returned (.tuple #[.int .i64 (((bputOf rows).length : Nat) : Int), .int .i64 (bputErr rows)]) ∧ Below w.heap.size w w' := by
  obtain ⟨a, c, rfl, _⟩ := h.form
  obtain ⟨n, hn⟩ : ∃ n, n = rows.length := ⟨_, rfl⟩
  rw [← hn] at h ⊢
  by_cases hf : n < 1 ∨ 1024 < n
  · have e1 := bputErr_few (rows := rows) (by omega)
    rw [e1, bput_none e1 (by decide)]
    have hcase : (n = 0) ∨ (((n : Int) == 0) = false ∧ (n : Int) > 1024) := by
      rcases hf with hf | hf
      · exact .inl (by omega)
      · exact .inr ⟨beq_eq_false_iff_ne.2 (by omega), by omega⟩
    clear hf h hn e1
    rcases hcase with rfl | ⟨g1, g2⟩
    all_goals go_enter Try.func13, Try.ntmps13
    all_goals go_wp2_with fail
    all_goals go_ret2
    all_goals exact ⟨rfl, Below.refl _ w⟩
  · have g1 : ((n : Int) == 0) = false := beq_eq_false_iff_ne.2 (by omega)
    have g2 : ¬ (n : Int) > 1024 := by omega
    have hn1 : 1 ≤ n ∧ n ≤ 1024 := by omega
    clear hf
    have HH := hide h
    have HN := hide hn
    clear h hn
    go_enter Try.func13, Try.ntmps13
    go_wp2_with fail
    refine (endOf_any n _).mono ?_
    rintro e w1 ⟨rfl, _, hb⟩
    have HB1 := hide hb
    clear hb
    go_wp2_with fail
    refine (long_any 2 _).mono ?_
    rintro e w2 ⟨rfl, hw⟩
    rw [hw]
    clear hw
    rw [if_pos (by omega)]
    go_wp2_with fail
    go_loopw [4, 22] (fun v i W => ∃ j : Nat, j ≤ n ∧ i = .int .i64 j ∧ (∀ r ∈ rows.take j, r.length ≤ 4096) ∧ v = .int .i64 ((11 + (puts ((rows.take j).map dat)).length : Nat) : Int) ∧ W = w1) (fun _ i _ => n - (intOf i).toNat)
    case atStart => exact ⟨0, Nat.zero_le _, rfl, fun r hr => (by simp at hr), by simp [puts], rfl⟩
    case round =>
      obtain ⟨j, hj, rfl, hrt, rfl, rfl⟩ := hrel
      have HRT := hide hrt
      have hle := dats_len hrt
      have hle2 : (puts ((rows.take j).map dat)).length ≤ 4105 * 1024 := by
        have : (rows.take j).length ≤ 1024 := by rw [List.length_take]; have := unhide HN; omega
        omega
      clear hrt hle
      by_cases hlt : j < n
      · obtain ⟨x, hx⟩ := some_get (xs := rows) (j := j) (by have := unhide HN; omega)
        obtain ⟨b1, o1, v1, e1, x1, x3⟩ := ((unhide HH).later (unhide HB1)).at hx
        subst e1
        obtain ⟨d1, k1, ed1, _⟩ := x3.form
        subst ed1
        have i1 : (j : Int) < (n : Int) := by omega
        have HDS := hide (dats_sum rows hx)
        have HX := hide hx
        clear x3 hx
        obtain ⟨nx, hnx⟩ : ∃ nx, nx = x.length := ⟨_, rfl⟩
        rw [← hnx] at x1 HDS
        have HNX := hide hnx
        clear hnx
        generalize (puts ((rows.take j).map dat)).length = S at *
        by_cases h4 : nx ≤ 4096
        · have h4' : ¬ (nx : Int) > 4096 := by omega
          obtain ⟨T, hT⟩ : ∃ T, T = 11 + S + (9 + nx) := ⟨_, rfl⟩
          have gT : ((11 + S : Nat) : Int) + ((nx : Int) + 9) = (T : Int) := by omega
          have HT := hide hT
          have HT2 : Hid (T ≤ 1000000000) := by show T ≤ _; omega
          clear hT
          go_wp2_with fail
          refine (long_any (nx : Int) _).mono ?_
          rintro e w3 ⟨rfl, hw⟩
          rw [hw]
          clear hw
          rw [if_pos (by omega)]
          go_wp2_with fail
          refine ⟨⟨j + 1, by omega, by go_num, fun r hr => ?_, ?_, by trivial⟩, by simp [intOf]; omega⟩
          · obtain ⟨hj2, hxe⟩ := List.getElem?_eq_some_iff.1 (unhide HX)
            rw [List.take_succ_eq_append_getElem hj2, List.mem_append, List.mem_singleton, hxe] at hr
            rcases hr with hr | rfl
            · exact unhide HRT r hr
            · rw [← unhide HNX]; exact h4
          · rw [unhide HDS]
            go_num
        · have h4' : (nx : Int) > 4096 := by omega
          have e1 := bputErr_long (rows := rows) (by rw [← unhide HN]; exact hn1) (List.mem_of_getElem? (unhide HX)) (by rw [← unhide HNX]; omega)
          have HE1 := hide e1
          have HE2 := hide (bput_none e1 (by decide))
          clear e1
          go_wp2_with fail
          go_ret2
          exact ⟨by rw [unhide HE1, unhide HE2]; rfl, unhide HB1⟩
      · have ej : n = j := by omega
        subst ej
        have HTK : Hid (rows.take n = rows) := List.take_of_length_le (by rw [unhide HN]; exact Nat.le_refl _)
        rw [unhide HTK] at HRT ⊢
        have hok : okRows rows := ⟨by rw [← unhide HN]; exact hn1, unhide HRT⟩
        have HE : Hid (bputErr rows = 0) := bputErr_zero.2 hok
        have HBO : Hid ((bputOf rows).length = 11 + (puts (rows.map dat)).length) := by
          show _ = _
          unfold bputOf
          rw [if_pos (unhide HE)]
          unfold bput recsOf
          rw [puts_snoc, List.length_append, put_len, ← unhide HN]
          show _ + (9 + 2) = _
          omega
        clear hok
        generalize (puts (rows.map dat)).length = S at *
        go_wp2_with fail
        go_ret2
        exact ⟨by rw [unhide HE, unhide HBO]; rfl, unhide HB1⟩
end Go.Proofs.Ytbbglgfgelnncaa
