/- FragNames of foremanlaw09: its walk. No statement of the seat is proved here. -/
import Derived.Test.YteggocgfaejmbaaBase06
namespace Go.Proofs.Yteggocgfaejmbaa
open Go.RowKit

theorem name_one (x : UInt8) : nameB [x] = chB x := by simp [nameB]
theorem str_cut1 (s : List UInt8) (j : Nat) (h : j < s.length) (W : World) : (Instr.slice 9 (.string ⟨s.toArray⟩) (some (.int .i64 ((j : Nat) : Int))) (some (.int .i64 (((j : Nat) : Int) + 1))) none).run Try.prog W = .ok (.string ⟨[s[j]'h].toArray⟩) W := by
  rw [run_slice_string W 9 _ .i64 .i64 _ _ Try.underlying9 (by omega) (by omega) (by rw [str_size]; omega)]
  congr 2
  have e : (⟨s.toArray⟩ : ByteArray).extract ((j : Nat) : Int).toNat (((j : Nat) : Int) + 1).toNat = ⟨[s[j]'h].toArray⟩ := by
    rw [show (((j : Nat) : Int)).toNat = j by omega, show (((j : Nat) : Int) + 1).toNat = j + 1 by omega]
    apply ByteArray.ext
    rw [ByteArray.data_extract]
    apply Array.ext'
    simp only [Array.toList_extract, List.extract]
    rw [show j + 1 - j = 1 by omega, List.drop_eq_getElem_cons h]
    rfl
  rw [e]
theorem nm_at {W : World} {g s : Nat} {x y : List UInt8} (h : W.heap[g]? = some (.cells #[.string ⟨x.toArray⟩, .int .u8 0, .slice (some ⟨s, 0, none⟩) 1 1, .string ⟨#[]⟩, .int .i64 0, .int .i64 0] 47 (0, 0))) (hs : W.heap[s]? = some (.cells #[.string ⟨y.toArray⟩] 9 (0, 0))) (hx : x.length ≤ maxLen) (hy : y.length ≤ maxLen) : FragAt (fun _ => True) W [⟨x, 0, [y], [], 0, 0⟩] (.slice (some ⟨g, 0, none⟩) 1 1) := by
  obtain ⟨c0, c1, c2, c3, c4, c5⟩ := cells6 h
  refine ⟨some ⟨g, 0, none⟩, 1, rfl, Nat.le_refl _, by unfold maxLen; omega, fun i hi => ?_⟩
  obtain rfl : i = 0 := by have : i < 1 := hi; omega
  refine ⟨g, 0, some ⟨s, 0, none⟩, 1, rfl, trivial, ⟨c0, c1, c2, c3, c4, c5⟩, ⟨hx, by show (0 : Nat) < 256; omega, Nat.zero_le _, by show InR 0; unfold InR; omega, by show InR 0; unfold InR; omega⟩, Nat.le_refl _, by unfold maxLen; omega, fun j hj => ?_⟩
  obtain rfl : j = 0 := by have : j < 1 := hj; omega
  exact ⟨s, 0, rfl, trivial, cell_of_row _ _ 0 _ _ _ hs, hy⟩
theorem nm_right {x y : List UInt8} (hx : nameB x = true) (hy : nameB y = true) : rightF [⟨x, 0, [y], [], 0, 0⟩] = true := by
  simp [rightF, FI.right, FI.okP, FI.kindOk, hx, hy]

set_option maxRecDepth 100000 in
set_option maxHeartbeats 4000000 in
theorem namesLaw_any (s t : List UInt8) (hs : s.length ≤ maxLen) (ht : t.length ≤ maxLen) (w : World) : Calls Try.prog 8 #[.string ⟨s.toArray⟩, .string ⟨t.toArray⟩] w fun e w' => e = .returned (.bool true) ∧ Below w.heap.size w w' := by
  have hsz := str_size s
  have htz := str_size t
  have HS := hide hs
  have HT := hide ht
  have HCS := hide (fun W => fName_any s W)
  have HCT := hide (fun W => fName_any t W)
  have HCUT := hide (str_cut1 s)
  obtain ⟨n, hn⟩ : ∃ n, n = s.length := ⟨_, rfl⟩
  obtain ⟨m, hm⟩ : ∃ m, m = t.length := ⟨_, rfl⟩
  rw [← hn] at hsz
  rw [← hm] at htz
  have HN := hide hn
  obtain ⟨z, hz⟩ : ∃ z : ByteArray, z = ⟨s.toArray⟩ := ⟨_, rfl⟩
  obtain ⟨y, hy⟩ : ∃ y : ByteArray, y = ⟨t.toArray⟩ := ⟨_, rfl⟩
  rw [← hz] at hsz HCS HCUT ⊢
  rw [← hy] at htz HCT ⊢
  have HZ := hide hz
  have HY := hide hy
  clear hn hm hz hy hs ht
  by_cases hbig : n > 100 ∨ m > 100
  · by_cases h1 : n > 100
    · have p1 : ((n : Nat) : Int) > 100 := by omega
      clear hbig h1
      go_enter Try.func8, Try.ntmps8
      go_wp2_with fail
      refine (awakeF_any w).mono ?_
      rintro e w1 ⟨rfl, hb1⟩
      have HB1 := hide hb1
      clear hb1
      go_wp2_with fail
      go_ret
      exact ⟨rfl, unhide HB1⟩
    · have p1 : ¬ ((n : Nat) : Int) > 100 := by omega
      have p2 : ((m : Nat) : Int) > 100 := by omega
      clear hbig h1
      go_enter Try.func8, Try.ntmps8
      go_wp2_with fail
      refine (awakeF_any w).mono ?_
      rintro e w1 ⟨rfl, hb1⟩
      have HB1 := hide hb1
      clear hb1
      go_wp2_with fail
      go_ret
      exact ⟨rfl, unhide HB1⟩
  have p1 : ¬ ((n : Nat) : Int) > 100 := by omega
  have p2 : ¬ ((m : Nat) : Int) > 100 := by omega
  have hn100 : n ≤ 100 := by omega
  clear hbig
  go_enter Try.func8, Try.ntmps8
  go_upto_region 3 with fail
  clear p1 p2
  go_cut [5] (fun v wx => v = .bool (decide (1 ≤ n) && decide (n ≤ 20)) ∧ wx = w)
  case first =>
    by_cases h1 : n < 1
    · have p1 : ¬ ((n : Nat) : Int) ≥ 1 := by omega
      have HV : Hid ((decide (1 ≤ n) && decide (n ≤ 20)) = false) := by show _ = _; rw [decide_eq_false (show ¬ 1 ≤ n by omega)]; rfl
      clear h1
      go_wp2_with fail
      go_meet
      exact ⟨by rw [unhide HV], rfl⟩
    · have p1 : ((n : Nat) : Int) ≥ 1 := by omega
      by_cases h2 : n ≤ 20
      · have p2 : ((n : Nat) : Int) ≤ 20 := by omega
        have HV : Hid ((decide (1 ≤ n) && decide (n ≤ 20)) = true) := by show _ = _; rw [decide_eq_true (show 1 ≤ n by omega), decide_eq_true h2]; rfl
        clear h1 h2
        go_wp2_with fail
        go_meet
        exact ⟨by rw [unhide HV], rfl⟩
      · have p2 : ¬ ((n : Nat) : Int) ≤ 20 := by omega
        have HV : Hid ((decide (1 ≤ n) && decide (n ≤ 20)) = false) := by show _ = _; rw [decide_eq_false h2]; simp
        clear h1 h2
        go_wp2_with fail
        go_meet
        exact ⟨by rw [unhide HV], rfl⟩
  obtain ⟨hv5, hw⟩ := hcut
  rw [hw, hv5]
  clear hw hv5
  obtain ⟨b0, hb0⟩ : ∃ b0, b0 = (decide (1 ≤ n) && decide (n ≤ 20)) := ⟨_, rfl⟩
  rw [← hb0]
  have HB0 := hide hb0
  clear hb0
  go_wp2_with fail
  go_loopw [5, 32] (fun v k W => ∃ j : Nat, j ≤ n ∧ k = .int .i64 ((j : Nat) : Int) ∧ v = .bool (b0 && (s.take j).all chB) ∧ W = w) (fun _ k _ => n - (intOf k).toNat)
  case atStart => exact ⟨0, by omega, rfl, by simp, rfl⟩
  case round =>
    obtain ⟨j, hj, rfl, rfl, hw⟩ := hrel
    rw [hw]
    clear hw
    by_cases hlt : j < n
    · have hji : ((j : Nat) : Int) < ((n : Nat) : Int) := by omega
      have hjs : j < s.length := by have := unhide HN; omega
      have hcut1 := unhide HCUT j hjs
      obtain ⟨x, hx⟩ : ∃ x, x = s[j] := ⟨_, rfl⟩
      have hts : (s.take (j + 1)).all chB = ((s.take j).all chB && chB x) := by rw [hx]; exact all_take_succ hjs
      rw [← hx] at hcut1
      have HTS := hide hts
      clear hx hts
      obtain ⟨v, hv⟩ : ∃ v, v = (b0 && (s.take j).all chB) := ⟨_, rfl⟩
      rw [← hv]
      have HV : Hid ((b0 && (s.take (j + 1)).all chB) = (v && chB x)) := by show _ = _; rw [unhide HTS, hv, Bool.and_assoc]
      clear hv HTS
      cases v with
      | false =>
        go_wp2_with fail
        exact ⟨⟨j + 1, by omega, by go_num, by rw [unhide HV]; rfl, trivial⟩, by simp [intOf]; omega⟩
      | true =>
        go_wp2_with fail
        refine (fName_any [x] w).mono ?_
        rintro e w2 ⟨rfl, hw⟩
        rw [hw, name_one]
        clear hw w2
        go_wp2_with fail
        exact ⟨⟨j + 1, by omega, by go_num, by rw [unhide HV]; simp, trivial⟩, by simp [intOf]; omega⟩
    · have e : j = n := by omega
      have hji : ¬ ((j : Nat) : Int) < ((n : Nat) : Int) := by omega
      have HV : Hid ((b0 && (s.take j).all chB) = nameB s) := by
        show _ = _
        rw [List.take_of_length_le (by have := unhide HN; omega), unhide HB0, unhide HN]
        rfl
      rw [unhide HV]
      clear e hlt hj
      obtain ⟨nb, hnb⟩ : ∃ nb, nb = nameB s := ⟨_, rfl⟩
      obtain ⟨mb, hmb⟩ : ∃ mb, mb = nameB t := ⟨_, rfl⟩
      rw [← hnb] at HCS ⊢
      rw [← hmb] at HCT
      have HNB := hide hnb
      have HMB := hide hmb
      clear hnb hmb HV HCUT HB0 HN
      go_wp2_with fail
      refine (unhide HCS w).mono ?_
      rintro e w2 ⟨rfl, hw⟩
      rw [hw]
      clear hw w2
      cases nb with
      | false =>
        go_wp2_with fail
        refine (unhide HCS w).mono ?_
        rintro e w2 ⟨rfl, hw⟩
        rw [hw]
        clear hw w2
        go_wp2_with fail
        refine (awakeF_any w).mono ?_
        rintro e w1 ⟨rfl, hb1⟩
        have HB1 := hide hb1
        clear hb1
        go_wp2_with fail
        go_ret
        exact ⟨rfl, unhide HB1⟩
      | true =>
        go_wp2_with fail
        refine (unhide HCS w).mono ?_
        rintro e w2 ⟨rfl, hw⟩
        rw [hw]
        clear hw w2
        go_wp2_with fail
        refine (unhide HCT w).mono ?_
        rintro e w2 ⟨rfl, hw⟩
        rw [hw]
        clear hw w2
        cases mb with
        | false =>
          go_wp2_with fail
          refine (awakeF_any w).mono ?_
          rintro e w1 ⟨rfl, hb1⟩
          have HB1 := hide hb1
          clear hb1
          go_wp2_with fail
          go_ret
          exact ⟨rfl, unhide HB1⟩
        | true =>
          obtain ⟨o1, ho1⟩ : ∃ o1 : Obj, o1 = (.cells #[.string y] 9) := ⟨_, rfl⟩
          obtain ⟨o2, ho2⟩ : ∃ o2 : Obj, o2 = (.cells #[.string z, .int .u8 0, .slice (some ⟨w.heap.size, 0, none⟩) 1 1, .string ⟨#[]⟩, .int .i64 0, .int .i64 0] 47) := ⟨_, rfl⟩
          obtain ⟨o3, ho3⟩ : ∃ o3 : Obj, o3 = (.cells #[.string z] 9) := ⟨_, rfl⟩
          obtain ⟨o4, ho4⟩ : ∃ o4 : Obj, o4 = (.cells #[.string y, .int .u8 0, .slice (some ⟨w.heap.size + 1 + 1, 0, none⟩) 1 1, .string ⟨#[]⟩, .int .i64 0, .int .i64 0] 47) := ⟨_, rfl⟩
          obtain ⟨w1, hw1⟩ : ∃ w1, w1 = w.alloc o1 := ⟨_, rfl⟩
          obtain ⟨w2, hw2⟩ : ∃ w2, w2 = w1.alloc o2 := ⟨_, rfl⟩
          obtain ⟨w3, hw3⟩ : ∃ w3, w3 = w2.alloc o3 := ⟨_, rfl⟩
          obtain ⟨w4, hw4⟩ : ∃ w4, w4 = w3.alloc o4 := ⟨_, rfl⟩
          have hs1 : w1.heap.size = w.heap.size + 1 := by rw [hw1]; simp
          have hs2 : w2.heap.size = w.heap.size + 1 + 1 := by rw [hw2]; simp [hs1]
          have hs3 : w3.heap.size = w.heap.size + 1 + 1 + 1 := by rw [hw3]; simp [hs2]
          have hb1 : Below w.heap.size w w1 := by rw [hw1]; exact (Below.refl _ _).alloc (Nat.le_refl _) _
          have hb2 : Below w1.heap.size w1 w2 := by rw [hw2]; exact (Below.refl _ _).alloc (Nat.le_refl _) _
          have hb3 : Below w2.heap.size w2 w3 := by rw [hw3]; exact (Below.refl _ _).alloc (Nat.le_refl _) _
          have hb4 : Below w3.heap.size w3 w4 := by rw [hw4]; exact (Below.refl _ _).alloc (Nat.le_refl _) _
          have hg1 : w1.heap[w.heap.size]? = some o1 := by rw [hw1]; exact heap_alloc_new _ _
          have hg2 : w2.heap[w.heap.size + 1]? = some o2 := by rw [hw2, ← hs1]; exact heap_alloc_new _ _
          have hg3 : w3.heap[w.heap.size + 1 + 1]? = some o3 := by rw [hw3, ← hs2]; exact heap_alloc_new _ _
          have hg4 : w4.heap[w.heap.size + 1 + 1 + 1]? = some o4 := by rw [hw4, ← hs3]; exact heap_alloc_new _ _
          have hg14 : w4.heap[w.heap.size]? = some o1 := (hb4.block _ (by omega)).trans ((hb3.block _ (by omega)).trans ((hb2.block _ (by omega)).trans hg1))
          have hg24 : w4.heap[w.heap.size + 1]? = some o2 := (hb4.block _ (by omega)).trans ((hb3.block _ (by omega)).trans hg2)
          have hg34 : w4.heap[w.heap.size + 1 + 1]? = some o3 := (hb4.block _ (by omega)).trans hg3
          rw [ho1] at hg14
          rw [ho2] at hg24
          rw [ho3] at hg34
          rw [ho4] at hg4
          have HA : Hid (∀ X, Below w4.heap.size w4 X → FragAt (fun _ => True) X [⟨s, 0, [t], [], 0, 0⟩] (.slice (some ⟨w.heap.size + 1, 0, none⟩) 1 1)) := fun X hX => by
            rw [unhide HZ] at hg24
            rw [unhide HY] at hg14
            exact (nm_at hg24 hg14 (unhide HS) (unhide HT)).later hX
          have HM : Hid (∀ X, Below w4.heap.size w4 X → FragAt (fun _ => True) X [⟨t, 0, [s], [], 0, 0⟩] (.slice (some ⟨w.heap.size + 1 + 1 + 1, 0, none⟩) 1 1)) := fun X hX => by
            rw [unhide HZ] at hg34
            rw [unhide HY] at hg4
            exact (nm_at hg4 hg34 (unhide HT) (unhide HS)).later hX
          have HB4 : Hid (Below w.heap.size w w4) := hb1.trans ((hb2.trans ((hb3.trans (hb4.mono hb3.size)).mono hb2.size)).mono hb1.size)
          rw [hw3, hw2, hw1, ho1, ho2, ho3, ho4] at hw4
          have HW4 := hide hw4
          have HR1 : Hid (rightF [⟨s, 0, [t], [], 0, 0⟩] = true) := nm_right (unhide HNB).symm (unhide HMB).symm
          have HR2 : Hid (rightF [⟨t, 0, [s], [], 0, 0⟩] = true) := nm_right (unhide HMB).symm (unhide HNB).symm
          have HEQ : Hid (decide (bytesF [⟨s, 0, [t], [], 0, 0⟩] = bytesF [⟨t, 0, [s], [], 0, 0⟩]) = decide (s = t)) := by
            show _ = _
            rw [Bool.eq_iff_iff, decide_eq_true_iff, decide_eq_true_iff, bytesF_part (unhide HR1) (unhide HR2)]
            constructor
            · intro h; simp at h; exact h.1
            · rintro rfl; rfl
          clear hg1 hg2 hg3 hg4 hg14 hg24 hg34 hb1 hb2 hb3 hb4 hs1 hs2 hs3 hw1 hw2 hw3 hw4 ho1 ho2 ho3 ho4 HCS HCT HNB HMB
          go_upto_region 15 with fail
          rw [← unhide HW4]
          clear HW4
          go_wp2_with fail
          refine (fBytes_any [⟨s, 0, [t], [], 0, 0⟩] (fun _ => True) _ _ (unhide HA _ (Below.refl _ _))).mono ?_
          rintro e w5 h5
          obtain ⟨p1, n1, c1, rfl, hP1, hb5⟩ := bytesM_right h5 (unhide HR1)
          have HP1 := hide hP1
          have HB5 := hide hb5
          clear h5 hP1 hb5 HA HR1
          go_wp2_with fail
          refine (fBytes_any [⟨t, 0, [s], [], 0, 0⟩] (fun _ => True) _ _ (unhide HM _ (unhide HB5))).mono ?_
          rintro e w6 h6
          obtain ⟨p2, n2, c2, rfl, hP2, hb6⟩ := bytesM_right h6 (unhide HR2)
          have HP2 := hide hP2
          have HP1' := hide ((unhide HP1).laterW hb6)
          have HB6 := hide ((unhide HB4).trans (((unhide HB5).trans (hb6.mono (unhide HB5).size)).mono (unhide HB4).size))
          clear h6 hP2 hb6 HB5 HP1 HM HR2
          by_cases hst : s = t
          · obtain rfl : z = y := by rw [unhide HZ, unhide HY, hst]
            go_wp2_with fail
            refine (wSame_any _ _ _ _ w6 (unhide HP1') (unhide HP2)).mono ?_
            rintro e w7 ⟨rfl, hw⟩
            rw [hw, unhide HEQ, decide_eq_true hst]
            clear hw w7 hst
            go_wp2_with fail
            refine (awakeF_any w6).mono ?_
            rintro e w8 ⟨rfl, hb8⟩
            have HB8 := hide ((unhide HB6).trans (hb8.mono (unhide HB6).size))
            clear hb8
            go_wp2_with fail
            go_ret
            exact ⟨rfl, unhide HB8⟩
          · have hzy : ¬ z.toList = y.toList := by
              rw [unhide HZ, unhide HY, ByteArray.toList_eq, ByteArray.toList_eq]
              simpa using hst
            have hzb : (z.toList == y.toList) = false := beq_eq_false_iff_ne.2 hzy
            go_wp2_with fail
            refine (wSame_any _ _ _ _ w6 (unhide HP1') (unhide HP2)).mono ?_
            rintro e w7 ⟨rfl, hw⟩
            rw [hw, unhide HEQ, decide_eq_false hst]
            clear hw w7 hst
            go_wp2_with fail
            refine (awakeF_any w6).mono ?_
            rintro e w8 ⟨rfl, hb8⟩
            have HB8 := hide ((unhide HB6).trans (hb8.mono (unhide HB6).size))
            clear hb8
            go_wp2_with fail
            go_ret
            exact ⟨rfl, unhide HB8⟩
end Go.Proofs.Yteggocgfaejmbaa
