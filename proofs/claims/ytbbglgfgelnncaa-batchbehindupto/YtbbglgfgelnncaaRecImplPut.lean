/- What Put of package rec answers. No statement of the seat is proved here. -/
import Derived.Test.YtbbglgfgelnncaaRecImplA
import Derived.Test.YtbbglgfgelnncaaCrcSum
namespace Go.Proofs.Ytbbglgfgelnncaa
open Go.RowKit

/-- The bytes under way: a head, and as many noughts as there are to come. -/
theorem put_b1 (m : Nat) (k : UInt8) : (List.replicate (9 + m) (0 : UInt8)).set 4 k = [0, 0, 0, 0, k, 0, 0, 0, 0] ++ List.replicate m 0 := by
  rw [Nat.add_comm]
  rfl
theorem put_b2 (m n : Nat) (k : UInt8) : fourAt ([0, 0, 0, 0, k, 0, 0, 0, 0] ++ List.replicate m 0) 5 n 4 = ([0, 0, 0, 0, k] ++ four n) ++ List.replicate m 0 := by
  show _ :: _ :: _ :: _ :: _ :: UInt8.ofNat (n / 256 ^ 0 % 256) :: _ = _
  rw [Nat.pow_zero, Nat.div_one]
  rfl
theorem put_b3 (n : Nat) (k : UInt8) (d : List UInt8) : overAt (([0, 0, 0, 0, k] ++ four n) ++ List.replicate d.length 0) 9 d = ([0, 0, 0, 0, k] ++ four n) ++ d := overAt_behind ([0, 0, 0, 0, k] ++ four n) _ d (by simp)
theorem put_b4 (r : RecD) (S : Nat) : fourAt (([0, 0, 0, 0, r.k] ++ four r.d.length) ++ r.d) 0 S 4 = four S ++ r.rest := by
  show UInt8.ofNat (S / 256 ^ 0 % 256) :: _ = _
  rw [Nat.pow_zero, Nat.div_one]
  rfl

section
variable (r : RecD) (a : Option Addr) (n c : Nat) (w : World)

set_option maxRecDepth 100000 in
set_option maxHeartbeats 4000000 in
theorem recPut_bad (h : Bytes w (.slice a n c) r.d) (hr : ¬ r.right) : Calls Try.prog 24 #[.agg #[.int .u8 (r.k.toNat : Nat), .slice a n c]] w fun e w' => ∃ v, e = .returned (.tuple #[v, .int .i64 (putErr r)]) ∧ Bytes w' v (putOf r) ∧ Below w.heap.size w w' := by
  obtain ⟨hn, hnc⟩ := bytes_len h
  have e0 : putOf r = [] := by unfold putOf; rw [if_neg fun e => hr (putErr_zero.1 e)]
  rw [e0]
  by_cases hk : 1 ≤ r.k.toNat ∧ r.k.toNat ≤ 2
  · have h3 : 4096 < n := by unfold RecD.right at hr; omega
    have e1 : putErr r = 31 := by unfold putErr; rw [if_neg (by omega), if_pos (by omega)]
    rw [e1]
    have HK := hide (decide_eq_true hk)
    have g3 : (n : Int) > 4096 := by omega
    clear e0 e1 hr h hk hn h3
    go_enter Try.func24, Try.ntmps24
    go_wp2_with fail
    refine (isKind_any _ _).mono ?_
    rintro e w' ⟨rfl, rfl⟩
    rw [unhide HK]
    go_wp2_with fail
    go_ret2
    exact ⟨_, rfl, .inl ⟨rfl, rfl⟩, (Below.refl _ w).alloc (Nat.le_refl _) _⟩
  · have e1 : putErr r = 30 := by unfold putErr; rw [if_pos (by omega)]
    rw [e1]
    have HK := hide (decide_eq_false hk)
    clear e0 e1 hr h hk hn
    go_enter Try.func24, Try.ntmps24
    go_wp2_with fail
    refine (isKind_any _ _).mono ?_
    rintro e w' ⟨rfl, rfl⟩
    rw [unhide HK]
    go_wp2_with fail
    go_ret2
    exact ⟨_, rfl, .inl ⟨rfl, rfl⟩, (Below.refl _ w).alloc (Nat.le_refl _) _⟩

set_option maxRecDepth 100000 in
set_option maxHeartbeats 4000000 in
theorem recPut_ok (h : Bytes w (.slice a n c) r.d) (hr : r.right) : Calls Try.prog 24 #[.agg #[.int .u8 (r.k.toNat : Nat), .slice a n c]] w fun e w' => ∃ v, e = .returned (.tuple #[v, .int .i64 (putErr r)]) ∧ Bytes w' v (putOf r) ∧ Below w.heap.size w w' := by
  obtain ⟨hn, hnc⟩ := bytes_len h
  have e0 : putOf r = r.put := if_pos (putErr_zero.2 hr)
  rw [e0, putErr_zero.2 hr]
  have HK := hide (decide_eq_true hr.1)
  have g3 : ¬ (n : Int) > 4096 := by have := hr.2; omega
  obtain ⟨N, hN⟩ : ∃ N, N = 9 + n := ⟨_, rfl⟩
  have HLG : Hid ((if 0 ≤ (n : Int) ∧ (n : Int) ≤ 4096 then (n : Int) + 9 else 0) = (N : Int)) := by show _ = _; rw [if_pos (by omega)]; omega
  obtain ⟨Z, hZ, hmk⟩ := makeBytes N (by omega)
  have hb1 : Below w.heap.size w (w.alloc (.cells #[.int .u8 (r.k.toNat : Nat), .slice a n c] 49)) := (Below.refl _ w).alloc (Nat.le_refl _) _
  have hx1 : (w.alloc (.cells #[.int .u8 (r.k.toNat : Nat), .slice a n c] 49)).heap[w.heap.size]? = some (.cells #[.int .u8 (r.k.toNat : Nat), .slice a n c] 49 (0, 0)) := heap_alloc_new w _
  have HHd := hide (h.alloc (.cells #[.int .u8 (r.k.toNat : Nat), .slice a n c] 49))
  have HX1 := hide hx1
  have HB1 := hide hb1
  have HR := hide hr
  have HN := hide hn
  have HZ := hide hZ
  have HNN := hide hN
  have HSm : Hid (N ≤ 1048576) := by show N ≤ _; omega
  clear e0 hr h hx1 hb1 hn hZ hN
  go_enter Try.func24, Try.ntmps24
  go_wp2_with fail
  refine (isKind_any _ _).mono ?_
  rintro e w' ⟨rfl, rfl⟩
  rw [unhide HK]
  go_upto_region 5 with fail
  obtain ⟨g1, hg1⟩ : ∃ g, g = w.heap.size := ⟨_, rfl⟩
  rw [← hg1] at HX1 ⊢
  clear hg1
  generalize w.alloc _ = w1 at *
  have hgl : g1 < w1.heap.size := (Array.getElem?_eq_some_iff.1 (unhide HX1)).1
  have y0 : w1.cell? ⟨g1, 0, none⟩ = some (.int .u8 (r.k.toNat : Nat)) := cell_of_row _ _ 0 _ _ _ (unhide HX1)
  have y1 : w1.cell? ⟨g1, 1, none⟩ = some (.slice a n c) := cell_of_row _ _ 1 _ _ _ (unhide HX1)
  go_wp2_with fail
  refine (long_any _ _).mono ?_
  rintro e w' ⟨rfl, rfl⟩
  rw [unhide HLG]
  go_upto_region 6 with fail
  have HO2 := hide (Own.made w' (unhide HZ) (unhide HSm))
  obtain ⟨G, hG⟩ : ∃ G, G = w'.heap.size := ⟨_, rfl⟩
  rw [← hG] at HO2 hgl ⊢
  have hmx := unhide HNN
  have HB2 := hide ((unhide HB1).trans ((unhide HO2).bb.mono (unhide HB1).size))
  generalize w'.alloc (.cells Z 5) = w2 at *
  have y0 : w2.cell? ⟨g1, 0, none⟩ = some (.int .u8 (r.k.toNat : Nat)) := cell_of_row _ _ 0 _ _ _ (((unhide HO2).bb.block g1 (by rw [← hG]; exact hgl)).trans (unhide HX1))
  obtain ⟨⟨x4, c4⟩, f4, p4⟩ := (unhide HO2).put (by simp) (k := 4) (by omega)
  have HO3 := hide (p4 r.k.toNat r.k.toNat_lt)
  have hN9 : 9 ≤ N := by omega
  have HGL : Hid (g1 < w'.heap.size) := by rw [← hG]; exact hgl
  clear p4 y1 hG hmx hmk
  go_upto_region 7 with fail
  clear y0 c4 f4 HO2
  rw [UInt8.ofNat_toNat, unhide HNN, put_b1, ← unhide HNN] at HO3
  generalize w2.setCell _ _ = w3 at *
  have y1 : w3.cell? ⟨g1, 1, none⟩ = some (.slice a n c) := cell_of_row _ _ 1 _ _ _ (((unhide HO3).bb.block g1 (unhide HGL)).trans (unhide HX1))
  obtain ⟨q5, q5'⟩ := slice_row G N N 5 (by omega) (by omega)
  replace q5 : ∀ W : World, (Instr.slice 23 (.slice (some ⟨G, 0, none⟩) N N) (some (.int .i64 5)) none none).run Try.prog W = .ok (.slice (some ⟨G, 5, none⟩) (N - 5) (N - 5)) W := fun W => q5 W
  replace q5' : ∀ W : World, (Instr.sliceAt 23 (.slice (some ⟨G, 0, none⟩) N N) (some (.int .i64 5)) none none).run Try.prog W = .ok (.slice (some ⟨G, 5, none⟩) (N - 5) (N - 5)) W := fun W => q5' W
  have hwr : IntKind.u32.wrap (n : Int) = (n : Int) := by rw [IntKind.wrap_u32']; omega
  have HL3 : Hid (([0, 0, 0, 0, r.k, 0, 0, 0, 0] ++ List.replicate n (0 : UInt8)).length = N) := by show _ = _; rw [unhide HNN]; simp; omega
  go_region_with (go_at_call 38; refine (putNumber_any (by exact (unhide HO3).later ((Below.refl _ _).drew)) (unhide HL3) 5 (N - 5) (N - 5) n (by omega) (by omega) (by omega)).mono ?_; rintro e w4 ⟨rfl, hO4⟩)
  all_goals (
    rw [put_b2] at hO4
    have HO4 := hide hO4
    clear hO4 HO3 y1 q5 q5' hwr HL3
    go_upto_region 8 with fail
    have y1 : w4.cell? ⟨g1, 1, none⟩ = some (.slice a n c) := cell_of_row _ _ 1 _ _ _ (((unhide HO4).bb.block g1 (unhide HGL)).trans (unhide HX1))
    have HO4d : Hid (Own w' (.slice (some ⟨G, 0, none⟩) N N) (([0, 0, 0, 0, r.k] ++ four n) ++ List.replicate n (0 : UInt8)) w4.drew) := (unhide HO4).later ((Below.refl _ _).drew)
    have HHd4 : Hid (Bytes w4.drew (.slice a n c) r.d) := (unhide HHd).kept fun k _ hk => (unhide HO4d).bb.block k hk
    obtain ⟨dv, q9, q9', hcp, hO5⟩ := copy_behind (l := 9) (unhide HO4d) (by rw [unhide HNN]; simp [four_len]; omega) (unhide HNN) (unhide HHd4) 3
    have HCP := hide hcp
    rw [← unhide HN, put_b3, unhide HN] at hO5
    have HO5 := hide hO5
    replace q9 : ∀ W : World, (Instr.slice 23 (.slice (some ⟨G, 0, none⟩) N N) (some (.int .i64 9)) none none).run Try.prog W = .ok (.slice (some dv) (N - 9) (N - 9)) W := fun W => q9 W
    replace q9' : ∀ W : World, (Instr.sliceAt 23 (.slice (some ⟨G, 0, none⟩) N N) (some (.int .i64 9)) none none).run Try.prog W = .ok (.slice (some dv) (N - 9) (N - 9)) W := fun W => q9' W
    clear hcp hO5
    go_region_law (refine step_copy_run rfl (.tmp 30) (.tmp 32) 23 23 rfl (.slice (some dv) (N - 9) (N - 9)) (.slice a n c) (goInt n) (by simp [Act.eval]) (by simp [Act.eval]) (unhide HCP) ?_)
    clear HCP q9 q9' y1 HO4d HHd4 HO4
    generalize w4.drew.setCells _ _ _ = w5 at *
    obtain ⟨s4, k4, B4, q4, q4'⟩ := slice_from (l := 4) (bytes_of_owns (unhide HO5).own |> fun h => (show Bytes w5 (.slice (some ⟨G, 0, none⟩) N N) (([0, 0, 0, 0, r.k] ++ four n) ++ r.d) from h)) (by omega)
    replace B4 : Bytes w5 (.slice s4 (N - 4) k4) r.rest := by
      have e : (([0, 0, 0, 0, r.k] ++ four n) ++ r.d).drop 4 = r.rest := by rw [← unhide HN]; rfl
      rwa [e] at B4
    have H4 := hide B4
    replace q4 : ∀ W : World, (Instr.slice 23 (.slice (some ⟨G, 0, none⟩) N N) (some (.int .i64 4)) none none).run Try.prog W = .ok (.slice s4 (N - 4) k4) W := fun W => q4 W
    replace q4' : ∀ W : World, (Instr.sliceAt 23 (.slice (some ⟨G, 0, none⟩) N N) (some (.int .i64 4)) none none).run Try.prog W = .ok (.slice s4 (N - 4) k4) W := fun W => q4' W
    have HLr : Hid (r.rest.length ≤ 1048576) := by show _ ≤ _; rw [rest_len, unhide HN]; omega
    clear B4
    go_wp2_with fail
    refine (sum_any (.slice s4 (N - 4) k4) r.rest _ (unhide H4) (unhide HLr)).mono ?_
    rintro e w6 ⟨rfl, hb6⟩
    have HO6 := hide ((unhide HO5).later hb6)
    have HSL := hide (sum_lt r.rest)
    have HL6 : Hid ((([0, 0, 0, 0, r.k] ++ four n) ++ r.d).length = N) := by show _ = _; rw [unhide HNN, List.length_append, List.length_append, four_len, unhide HN]; rfl
    have HP : Hid (r.put = four (sumB r.rest) ++ r.rest) := rfl
    generalize sumB r.rest = S at *
    clear hb6 HO5 H4 q4 q4'
    go_wp2_with fail
    refine (putNumber_any (unhide HO6) (unhide HL6) 0 N N S (unhide HSL) (by omega) (by omega)).mono ?_
    rintro e w7 ⟨rfl, hO7⟩
    have HO7 : Hid (Own w' (.slice (some ⟨G, 0, none⟩) N N) r.put w7) := by
      have h7 := hO7
      rw [← unhide HN, put_b4, ← unhide HP] at h7
      exact h7
    clear hO7 HO6
    go_wp2_with fail
    go_ret2
    exact ⟨_, rfl, bytes_of_owns (unhide HO7).own, (unhide HB1).trans ((unhide HO7).bb.mono (unhide HB1).size)⟩)

theorem recPut_any (h : Bytes w (.slice a n c) r.d) : Calls Try.prog 24 #[.agg #[.int .u8 (r.k.toNat : Nat), .slice a n c]] w fun e w' => ∃ v, e = .returned (.tuple #[v, .int .i64 (putErr r)]) ∧ Bytes w' v (putOf r) ∧ Below w.heap.size w w' := by
  by_cases hr : r.right
  · exact recPut_ok r a n c w h hr
  · exact recPut_bad r a n c w h hr
end
end Go.Proofs.Ytbbglgfgelnncaa
