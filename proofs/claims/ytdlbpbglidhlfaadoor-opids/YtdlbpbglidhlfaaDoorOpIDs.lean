/- OpIDs of foremanlaw10: its walk. No statement of the seat is proved here. -/
import Derived.Test.YtdlbpbglidhlfaaDoorBase13
namespace Go.Proofs.YtdlbpbglidhlfaaDoor
open Go.RowKit

theorem id_one (x : UInt8) : idB [x] = idCh x := by simp [idB]
theorem idCh_low {x : UInt8} (h : 128 ≤ x.toNat) : idCh x = false := by
  rcases idCh_cases x with ⟨h1, _⟩ | ⟨_, _, h1⟩ | ⟨_, h1, _⟩
  · omega
  · exact h1
  · omega
theorem str_cutO (s : List UInt8) (j : Nat) (h : j < s.length) (W : World) : (Instr.slice 9 (.string ⟨s.toArray⟩) (some (.int .i64 ((j : Nat) : Int))) (some (.int .i64 (((j : Nat) : Int) + 1))) none).run Tryd.prog W = .ok (.string ⟨[s[j]'h].toArray⟩) W := by
  rw [run_slice_string W 9 _ .i64 .i64 _ _ Tryd.underlying9 (by omega) (by omega) (by rw [str_size]; omega)]
  congr 2
  have e : (⟨s.toArray⟩ : ByteArray).extract ((j : Nat) : Int).toNat (((j : Nat) : Int) + 1).toNat = ⟨[s[j]'h].toArray⟩ := by
    rw [show (((j : Nat) : Int)).toNat = j by omega, show (((j : Nat) : Int) + 1).toNat = j + 1 by omega]
    apply ByteArray.ext
    rw [ByteArray.data_extract]
    apply Array.ext'
    simp only [Array.toList_extract, List.extract]
    rw [show j + 1 - j = 1 by omega, List.drop_eq_getElem_cons h]
    rfl
  rw [e]
theorem idOp_right (w : Nat) (hw : w = 2 ∨ w = 5) (s : List UInt8) : (exO w s 0 0).right = idB s := by
  unfold exO OD.right OD.isZ
  rcases hw with rfl | rfl <;> (show (idB s && !decide ((0 : Int) ≠ 0) && !!zeroD.same zeroD && !!([] : List FI).isEmpty && !decide ((0 : Int) ≠ 0)) = idB s; rw [(VD.same_iff zeroD zeroD).2 rfl]; simp)

set_option maxRecDepth 100000 in
set_option maxHeartbeats 4000000 in
theorem idsLaw_any (s : List UInt8) (hs : s.length ≤ maxLen) (w : World) (hT : OTab w) : Calls Tryd.prog 6 #[.string ⟨s.toArray⟩] w fun e w' => e = .returned (.bool true) ∧ Below w.heap.size w w' := by
  have hsz := str_size s
  have HCS := hide (fun W => oID_any s W)
  have HCUT := hide (str_cutO s)
  have HIX := hide (str_index s)
  have HTB : Hid (∀ X, Below w.heap.size w X → OTab X) := fun X hX => hT.later hX
  have HR5 : Hid (∀ X, Below w.heap.size w X → Calls Tryd.prog 10 #[.agg #[.int .u8 5, .string ⟨s.toArray⟩, .int .i64 0, .int .u8 0, .int .i64 0, .string ⟨#[]⟩, .slice none 0 0, .slice none 0 0, .int .i64 0]] X fun e w' => e = .returned (.bool (idB s)) ∧ Below X.heap.size X w') := fun X hX => (oRight_any (exO 5 s 0 0) (fun _ => True) _ X (exO_at _ _ rfl (by omega) hs (by unfold InR; omega) (by unfold InR; omega)) (exO_lt _ _ _ _) (unhide HTB X hX)).mono fun e w' h => by rw [idOp_right 5 (.inr rfl)] at h; exact h
  have HR2 : Hid (∀ X, Below w.heap.size w X → Calls Tryd.prog 10 #[.agg #[.int .u8 2, .string ⟨s.toArray⟩, .int .i64 0, .int .u8 0, .int .i64 0, .string ⟨#[]⟩, .slice none 0 0, .slice none 0 0, .int .i64 0]] X fun e w' => e = .returned (.bool (idB s)) ∧ Below X.heap.size X w') := fun X hX => (oRight_any (exO 2 s 0 0) (fun _ => True) _ X (exO_at _ _ rfl (by omega) hs (by unfold InR; omega) (by unfold InR; omega)) (exO_lt _ _ _ _) (unhide HTB X hX)).mono fun e w' h => by rw [idOp_right 2 (.inl rfl)] at h; exact h
  have HAW : Hid (∀ W, Below w.heap.size w W → Calls Tryd.prog 8 #[] W fun e w' => e = .returned (.bool true) ∧ Below w.heap.size w w') := fun W hW => (oAwake_any W (unhide HTB W hW)).mono fun e w' ⟨h1, h2⟩ => ⟨h1, hW.trans (h2.mono hW.size)⟩
  obtain ⟨n, hn⟩ : ∃ n, n = s.length := ⟨_, rfl⟩
  rw [← hn] at hsz
  have HN := hide hn
  obtain ⟨z, hz⟩ : ∃ z : ByteArray, z = ⟨s.toArray⟩ := ⟨_, rfl⟩
  rw [← hz] at hsz HCS HCUT HIX HR5 HR2 ⊢
  clear hn hz hs hT
  by_cases hbig : n > 500
  · have p1 : ((n : Nat) : Int) > 500 := by omega
    clear hbig
    go_enter Tryd.func6, Tryd.ntmps6
    go_wp2_with fail
    refine (unhide HAW w (Below.refl _ _)).mono ?_
    rintro e w1 ⟨rfl, hb1⟩
    have HB1 := hide hb1
    clear hb1
    go_wp2_with fail
    go_ret
    exact ⟨rfl, unhide HB1⟩
  have p1 : ¬ ((n : Nat) : Int) > 500 := by omega
  have hn500 : n ≤ 500 := by omega
  clear hbig
  go_enter Tryd.func6, Tryd.ntmps6
  go_upto_region 3 with fail
  clear p1
  go_cut [3] (fun v wx => v = .bool (decide (1 ≤ n) && decide (n ≤ 400)) ∧ wx = w)
  case first =>
    by_cases h1 : n < 1
    · have p1 : ¬ ((n : Nat) : Int) ≥ 1 := by omega
      have HV : Hid ((decide (1 ≤ n) && decide (n ≤ 400)) = false) := by show _ = _; rw [decide_eq_false (show ¬ 1 ≤ n by omega)]; rfl
      clear h1
      go_wp2_with fail
      go_meet
      exact ⟨by rw [unhide HV], rfl⟩
    · have p1 : ((n : Nat) : Int) ≥ 1 := by omega
      by_cases h2 : n ≤ 400
      · have p2 : ((n : Nat) : Int) ≤ 400 := by omega
        have HV : Hid ((decide (1 ≤ n) && decide (n ≤ 400)) = true) := by show _ = _; rw [decide_eq_true (show 1 ≤ n by omega), decide_eq_true h2]; rfl
        clear h1 h2
        go_wp2_with fail
        go_meet
        exact ⟨by rw [unhide HV], rfl⟩
      · have p2 : ¬ ((n : Nat) : Int) ≤ 400 := by omega
        have HV : Hid ((decide (1 ≤ n) && decide (n ≤ 400)) = false) := by show _ = _; rw [decide_eq_false h2]; simp
        clear h1 h2
        go_wp2_with fail
        go_meet
        exact ⟨by rw [unhide HV], rfl⟩
  obtain ⟨hv5, hw⟩ := hcut
  rw [hw, hv5]
  clear hw hv5
  obtain ⟨b0, hb0⟩ : ∃ b0, b0 = (decide (1 ≤ n) && decide (n ≤ 400)) := ⟨_, rfl⟩
  rw [← hb0]
  have HB0 := hide hb0
  clear hb0
  go_wp2_with fail
  go_loopw [3, 19] (fun v k W => ∃ j : Nat, j ≤ n ∧ k = .int .i64 ((j : Nat) : Int) ∧ v = .bool (b0 && (s.take j).all idCh) ∧ W = w) (fun _ k _ => n - (intOf k).toNat)
  case atStart => exact ⟨0, by omega, rfl, by simp, rfl⟩
  case round =>
    obtain ⟨j, hj, rfl, rfl, hw⟩ := hrel
    rw [hw]
    clear hw
    by_cases hlt : j < n
    · have hji : ((j : Nat) : Int) < ((n : Nat) : Int) := by omega
      have hjs : j < s.length := by have := unhide HN; omega
      have hcut1 := unhide HCUT j hjs
      have hix1 := unhide HIX j hjs
      obtain ⟨x, hx⟩ : ∃ x, x = s[j] := ⟨_, rfl⟩
      have hts : (s.take (j + 1)).all idCh = ((s.take j).all idCh && idCh x) := by rw [hx]; exact all_take_succ hjs
      rw [← hx] at hcut1 hix1
      have HTS := hide hts
      clear hx hts
      obtain ⟨v, hv⟩ : ∃ v, v = (b0 && (s.take j).all idCh) := ⟨_, rfl⟩
      rw [← hv]
      have HV : Hid ((b0 && (s.take (j + 1)).all idCh) = (v && idCh x)) := by show _ = _; rw [unhide HTS, hv, Bool.and_assoc]
      clear hv HTS
      cases v with
      | false =>
        go_wp2_with fail
        exact ⟨⟨j + 1, by omega, by go_num, by rw [unhide HV]; rfl, trivial⟩, by simp [intOf]; omega⟩
      | true =>
        by_cases hx8 : x.toNat < 128
        · have q1 : ((x.toNat : Nat) : Int) < 128 := by omega
          clear hx8
          go_wp2_with fail
          refine (oID_any [x] w).mono ?_
          rintro e w2 ⟨rfl, hw⟩
          rw [hw, id_one]
          clear hw w2
          go_wp2_with fail
          exact ⟨⟨j + 1, by omega, by go_num, by rw [unhide HV]; rfl, trivial⟩, by simp [intOf]; omega⟩
        · have q1 : ¬ ((x.toNat : Nat) : Int) < 128 := by omega
          have HXF : Hid (idCh x = false) := idCh_low (by omega)
          clear hx8
          go_wp2_with fail
          exact ⟨⟨j + 1, by omega, by go_num, by rw [unhide HV, unhide HXF]; rfl, trivial⟩, by simp [intOf]; omega⟩
    · have hji : ¬ ((j : Nat) : Int) < ((n : Nat) : Int) := by omega
      have he : (b0 && (s.take j).all idCh) = idB s := by
        rw [List.take_of_length_le (by have := unhide HN; omega), unhide HB0, unhide HN]
        rfl
      rw [he]
      clear hlt hj he
      obtain ⟨r, hr⟩ : ∃ r, r = idB s := ⟨_, rfl⟩
      rw [← hr] at HCS HR5 HR2 ⊢
      have hrr : (r == r) = true := by cases r <;> rfl
      clear hr
      go_wp2_with fail
      refine (unhide HCS w).mono ?_
      rintro e w2 ⟨rfl, hw⟩
      rw [hw]
      clear hw w2
      go_wp2_with fail
      refine (unhide HR5 w (Below.refl _ _)).mono ?_
      rintro e w2 ⟨rfl, hb2⟩
      have HB2 := hide hb2
      clear hb2
      go_wp2_with fail
      refine (unhide HR2 w2 (unhide HB2)).mono ?_
      rintro e w3 ⟨rfl, hb3⟩
      have HB3 := hide ((unhide HB2).trans (hb3.mono (unhide HB2).size))
      clear hb3
      go_wp2_with fail
      refine (unhide HAW w3 (unhide HB3)).mono ?_
      rintro e w4 ⟨rfl, hb4⟩
      have HB4 := hide hb4
      clear hb4
      go_wp2_with fail
      go_ret
      exact ⟨rfl, unhide HB4⟩
end Go.Proofs.YtdlbpbglidhlfaaDoor
