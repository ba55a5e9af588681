/- FragRefA, FragFew, WireRef, FragRefB: our own definitions and contracts; no statement of the seat is proved here. -/
import Derived.Test.YteggocgfaejmbaaBase05
import Derived.Test.YteggocgfaejmbaaBase01
import Derived.Test.YteggocgfaejmbaaBase00
import Derived.Test.YteggocgfaejmbaaBase06
namespace Go.Proofs.Yteggocgfaejmbaa
open Go.RowKit

/-- A light item, a light fragment. -/
def FI.Small (x : FI) : Prop := x.name.length ≤ 100 ∧ x.over.length ≤ 100 ∧ x.after.length ≤ 40 ∧ ∀ s ∈ x.after, s.length ≤ 100
def SmallF (l : List FI) : Prop := l.length ≤ 100 ∧ ∀ x ∈ l, x.Small
theorem FI.right_small {x : FI} (h : x.right = true) : x.Small := by
  rw [FI.right_parts] at h
  simp only [Bool.and_eq_true, decide_eq_true_eq] at h
  obtain ⟨h1, h2, h3, _, h5⟩ := h
  refine ⟨by have := nameB_len h1; omega, ?_, by omega, fun s hs => by have := nameB_len (List.all_eq_true.1 h3 s hs); omega⟩
  unfold FI.kindOk at h5
  simp only [Bool.or_eq_true, Bool.and_eq_true, decide_eq_true_eq, List.isEmpty_iff] at h5
  rcases h5 with ⟨⟨_, h⟩, _⟩ | ⟨⟨⟨_, h⟩, _⟩, _⟩
  · rw [h]; exact Nat.zero_le _
  · have := nameB_len h; omega
theorem rightF_small {l : List FI} (h : rightF l = true) : SmallF l := by
  unfold rightF at h
  simp only [Bool.and_eq_true, decide_eq_true_eq] at h
  exact ⟨by omega, fun x hx => FI.right_small (List.all_eq_true.1 h.2 x hx)⟩

set_option maxRecDepth 100000 in
set_option maxHeartbeats 4000000 in
theorem rItem_any (x : FI) (B : Nat → Prop) (u : Value) (w : World) (h : x.At B w u) (hsm : x.Small) : Calls Try.prog 26 #[u] w fun e w' => e = .returned (.bool x.right) ∧ Below w.heap.size w w' := by
  obtain ⟨z, K, pa, pn, pc, zo, wd, qt, rfl⟩ := h.form
  have hp := h.parts
  obtain ⟨W1, hW1⟩ : ∃ W1, W1 = w.alloc (.cells #[.string z, .int .u8 ((K : Nat) : Int), .slice pa pn pc, .string zo, .int .i64 wd, .int .i64 qt] 47) := ⟨_, rfl⟩
  have hb1 : Below w.heap.size w W1 := by rw [hW1]; exact (Below.refl _ w).alloc (Nat.le_refl _) _
  have hr1 : W1.heap[w.heap.size]? = some (.cells #[.string z, .int .u8 ((K : Nat) : Int), .slice pa pn pc, .string zo, .int .i64 wd, .int .i64 qt] 47 (0, 0)) := by rw [hW1]; exact heap_alloc_new w _
  obtain ⟨a0, a1, a2, a3, a4, a5⟩ := cells6 hr1
  have HB1 := hide hb1
  have HW1 := hide hW1
  have HV : Hid (x.right = (nameB x.name && (decide (pn ≤ 20) && (x.after.all nameB && ((decide (0 ≤ qt) && decide (qt ≤ 400)) && x.kindOk nameB))))) := by show _ = _; rw [FI.right_parts, hp.an, hp.qt]
  have HNM : Hid (∀ W, Calls Try.prog 14 #[.string z] W fun e w' => e = .returned (.bool (nameB x.name)) ∧ w' = W) := fun W => by rw [hp.nm]; exact rName_any x.name (by have := hsm.1; omega) W
  have HNO : Hid (∀ W, Calls Try.prog 14 #[.string zo] W fun e w' => e = .returned (.bool (nameB x.over)) ∧ w' = W) := fun W => by rw [hp.ov]; exact rName_any x.over (by have := hsm.2.1; omega) W
  have HKV : Hid (x.kindOk nameB = ((decide (K = 0) && x.over.isEmpty && decide (wd = 0)) || (decide (K = 1) && nameB x.over && decide (0 ≤ wd) && decide (wd ≤ 40)))) := by show _ = _; rw [hp.kd, hp.wd]; rfl
  have hze := str_empty x.over
  rw [← hp.ov] at hze
  have HST : Hid (StrsAt B W1 pa x.after) := hp.strs.kept (fun k _ hk => hb1.block k hk) (fun _ h _ => h)
  have HAN := hide hp.an
  have HAS : Hid (∀ j (h : j < x.after.length), ∀ W, Calls Try.prog 14 #[.string ⟨(x.after[j]'h).toArray⟩] W fun e w' => e = .returned (.bool (nameB (x.after[j]'h))) ∧ w' = W) := fun j h W => rName_any _ (by have := hsm.2.2.2 _ (List.getElem_mem h); omega) W
  have hp40 : pn ≤ 40 := by rw [hp.an]; exact hsm.2.2.1
  generalize nameB x.name = bn at *
  generalize x.over.isEmpty = oe at *
  generalize nameB x.over = on at *
  clear h hsm hp hb1 hr1 hW1
  go_enter Try.func26, Try.ntmps26
  go_upto_region 1 with fail
  rw [← unhide HW1]
  clear HW1
  go_wp2_with fail
  refine (unhide HNM _).mono ?_
  rintro e w2 ⟨rfl, hw⟩
  rw [hw]
  clear hw w2
  cases bn with
  | false =>
    go_wp2_with fail
    go_ret
    exact ⟨ret_bool (unhide HV).symm, unhide HB1⟩
  | true =>
  by_cases h20 : pn ≤ 20
  case neg =>
    have g20 : ((pn : Nat) : Int) > 20 := by omega
    have HV2 : Hid (x.right = false) := by show _ = _; rw [unhide HV, decide_eq_false h20]; simp
    clear h20
    go_wp2_with fail
    go_ret
    exact ⟨ret_bool (unhide HV2).symm, unhide HB1⟩
  have g20 : ¬ ((pn : Nat) : Int) > 20 := by omega
  by_cases hq0 : 0 ≤ qt
  case neg =>
    have gq : qt < 0 := by omega
    have HV2 : Hid (x.right = false) := by show _ = _; rw [unhide HV, decide_eq_false hq0]; simp
    clear h20 hq0
    go_wp2_with fail
    go_ret
    exact ⟨ret_bool (unhide HV2).symm, unhide HB1⟩
  have gq : ¬ qt < 0 := by omega
  by_cases hq4 : qt ≤ 400
  case neg =>
    have gq4 : qt > 400 := by omega
    have HV2 : Hid (x.right = false) := by show _ = _; rw [unhide HV, decide_eq_false hq4]; simp
    clear h20 hq0 hq4
    go_wp2_with fail
    go_ret
    exact ⟨ret_bool (unhide HV2).symm, unhide HB1⟩
  have gq4 : ¬ qt > 400 := by omega
  have HV2 : Hid (x.right = (x.after.all nameB && x.kindOk nameB)) := by show _ = _; rw [unhide HV, decide_eq_true h20, decide_eq_true hq0, decide_eq_true hq4]; simp
  clear h20 hq0 hq4 HV
  go_wp2_with fail
  go_loopw [3] (fun k W => ∃ j : Nat, j ≤ pn ∧ k = .int .i64 ((j : Nat) : Int) ∧ (x.after.take j).all nameB = true ∧ W = W1) (fun k _ => pn - (intOf k).toNat)
  case atStart => exact ⟨0, by omega, rfl, rfl, rfl⟩
  case round =>
    obtain ⟨j, hj, rfl, ha, hw⟩ := hrel
    rw [hw]
    clear hw
    have HA := hide ha
    clear ha
    by_cases hlt : j < pn
    · have hji : ((j : Nat) : Int) < ((pn : Nat) : Int) := by omega
      have hjl : j < x.after.length := by have := unhide HAN; omega
      obtain ⟨b, o, rfl, _, hc, _⟩ := unhide HST j hjl
      have HTS := hide (allL_take_succ (p := nameB) hjl)
      have HTF := hide (allL_false (p := nameB) hjl)
      have HC := hide (unhide HAS j hjl)
      generalize (⟨x.after[j].toArray⟩ : ByteArray) = zz at *
      generalize nameB x.after[j] = q at *
      go_wp2_with fail
      refine (unhide HC _).mono ?_
      rintro e w2 ⟨rfl, hw⟩
      rw [hw]
      clear hw w2
      cases q with
      | false =>
        have HF : Hid (x.right = false) := by show _ = _; rw [unhide HV2, unhide HTF rfl]; rfl
        go_wp2_with fail
        go_ret
        exact ⟨ret_bool (unhide HF).symm, unhide HB1⟩
      | true =>
        have HT : Hid ((x.after.take (j + 1)).all nameB = true) := by show _ = _; rw [unhide HTS, unhide HA]; rfl
        go_wp2_with fail
        exact ⟨⟨j + 1, by omega, by go_num, unhide HT, trivial⟩, by simp [intOf]; omega⟩
    · have e : j = pn := by omega
      have hji : ¬ ((j : Nat) : Int) < ((pn : Nat) : Int) := by omega
      have HV3 : Hid (x.right = x.kindOk nameB) := by
        show _ = _
        have h := unhide HA
        rw [List.take_of_length_le (by have := unhide HAN; omega)] at h
        rw [unhide HV2, h]; rfl
      clear e HV2 HA hlt
      by_cases k0 : K = 0
      · have g0 : (((K : Nat) : Int) == 0) = true := by rw [beq_iff_eq]; omega
        have HV4 : Hid (x.right = (oe && decide (wd = 0))) := by show _ = _; rw [unhide HV3, unhide HKV, k0]; simp
        clear k0 HKV
        cases oe with
        | false =>
          go_wp2_with fail
          go_ret
          exact ⟨ret_bool (unhide HV4).symm, unhide HB1⟩
        | true =>
          by_cases hw0 : wd = 0
          · have gw : (wd == 0) = true := beq_iff_eq.2 hw0
            have HW0 := hide hw0
            clear hw0
            go_wp2_with fail
            go_ret
            exact ⟨ret_bool (by rw [unhide HV4, decide_eq_true (unhide HW0)]; rfl), unhide HB1⟩
          · have gw : (wd == 0) = false := beq_eq_false_iff_ne.2 hw0
            have HW0 := hide hw0
            clear hw0
            go_wp2_with fail
            go_ret
            exact ⟨ret_bool (by rw [unhide HV4, decide_eq_false (unhide HW0)]; rfl), unhide HB1⟩
      have g0 : (((K : Nat) : Int) == 0) = false := by rw [beq_eq_false_iff_ne]; omega
      clear hze
      by_cases k1 : K = 1
      case neg =>
        have g1 : (((K : Nat) : Int) == 1) = false := by rw [beq_eq_false_iff_ne]; omega
        have HV4 : Hid (x.right = false) := by show _ = _; rw [unhide HV3, unhide HKV, decide_eq_false k0, decide_eq_false k1]; simp
        clear k0 k1 HKV
        go_wp2_with fail
        go_ret
        exact ⟨ret_bool (unhide HV4).symm, unhide HB1⟩
      have g1 : (((K : Nat) : Int) == 1) = true := by rw [beq_iff_eq]; omega
      have HV4 : Hid (x.right = (on && (decide (0 ≤ wd) && decide (wd ≤ 40)))) := by show _ = _; rw [unhide HV3, unhide HKV, k1]; simp [Bool.and_assoc]
      clear k0 k1 HKV
      go_wp2_with fail
      refine (unhide HNO _).mono ?_
      rintro e w2 ⟨rfl, hw⟩
      rw [hw]
      clear hw w2
      cases on with
      | false =>
        go_wp2_with fail
        go_ret
        exact ⟨ret_bool (unhide HV4).symm, unhide HB1⟩
      | true =>
        by_cases hw0 : 0 ≤ wd
        case neg =>
          have gw : ¬ wd ≥ 0 := by omega
          have HV5 : Hid (x.right = false) := by show _ = _; rw [unhide HV4, decide_eq_false hw0]; simp
          clear hw0
          go_wp2_with fail
          go_ret
          exact ⟨ret_bool (unhide HV5).symm, unhide HB1⟩
        have gw : wd ≥ 0 := by omega
        by_cases hw4 : wd ≤ 40
        · have HV5 : Hid (x.right = true) := by show _ = _; rw [unhide HV4, decide_eq_true hw0, decide_eq_true hw4]; rfl
          clear hw0
          go_wp2_with fail
          go_ret
          exact ⟨ret_bool (unhide HV5).symm, unhide HB1⟩
        · have HV5 : Hid (x.right = false) := by show _ = _; rw [unhide HV4, decide_eq_false hw4]; simp
          have HW4 := hide hw4
          clear hw0
          go_wp2_with fail
          go_ret
          exact ⟨ret_bool (by rw [unhide HV5]; exact decide_eq_false (by have := unhide HW4; omega)), unhide HB1⟩

set_option maxRecDepth 100000 in
set_option maxHeartbeats 2000000 in
theorem rRight_any (l : List FI) (B : Nat → Prop) (u : Value) (w : World) (h : FragAt B w l u) (hsm : SmallF l) : Calls Try.prog 11 #[u] w fun e w' => e = .returned (.bool (rightF l)) ∧ Below w.heap.size w w' := by
  obtain ⟨a, c, rfl, hlc, hcm, hS⟩ := h
  obtain ⟨n, hn⟩ : ∃ n, n = l.length := ⟨_, rfl⟩
  have hn6 : n ≤ 100 := by rw [hn]; exact hsm.1
  rw [← hn]
  have HN := hide hn
  have HS := hide hS
  have HSM := hide hsm.2
  have HB0 := hide (Below.refl w.heap.size w)
  have HV : Hid (rightF l = (decide (n ≤ 40) && l.all FI.right)) := by show _ = _; rw [hn]; rfl
  clear hn hS hlc hcm hsm
  go_enter Try.func11, Try.ntmps11
  go_wp2_with fail
  go_loopw [3] (fun k W => ∃ j : Nat, j ≤ n ∧ k = .int .i64 ((j : Nat) : Int) ∧ (l.take j).all FI.right = true ∧ Below w.heap.size w W) (fun k _ => n - (intOf k).toNat)
  case atStart => exact ⟨0, by omega, rfl, rfl, unhide HB0⟩
  case round =>
    obtain ⟨j, hj, rfl, ha, hb⟩ := hrel
    have HB := hide hb
    have HA := hide ha
    clear ha
    by_cases hlt : j < n
    · have hji : ((j : Nat) : Int) < ((n : Nat) : Int) := by omega
      have hjl : j < l.length := by have := unhide HN; omega
      obtain ⟨b, o, z, K, pa, pn, pc, zo, wd, qt, rfl, _, c0, c1, c2, c3, c4, c5, hx⟩ := (unhide HS j hjl).out
      have hk : ∀ {p : Addr} {x : Value}, w.cell? p = some x → wr.cell? p = some x := fun hx => (hb.cell (World.block_lt_of_cell? _ _ hx)).trans hx
      have d0 := hk c0
      have d1 := hk c1
      have d2 := hk c2
      have d3 := hk c3
      have d4 := hk c4
      have d5 := hk c5
      have HTS := hide (allL_take_succ (p := FI.right) hjl)
      have HTF := hide (allL_false (p := FI.right) hjl)
      have HC := hide (rItem_any l[j] B _ wr (hx.later hb) (unhide HSM _ (List.getElem_mem hjl)))
      generalize FI.right l[j] = q at *
      clear c0 c1 c2 c3 c4 c5 hx hk hb
      go_wp2_with fail
      refine (unhide HC).mono ?_
      rintro e w2 ⟨rfl, hb2⟩
      have HB2 := hide ((unhide HB).trans (hb2.mono (unhide HB).size))
      clear hb2 d0 d1 d2 d3 d4 d5
      cases q with
      | false =>
        have HF : Hid (rightF l = false) := by show _ = _; rw [unhide HV, unhide HTF rfl, Bool.and_false]
        go_wp2_with fail
        go_ret
        exact ⟨ret_bool (unhide HF).symm, unhide HB2⟩
      | true =>
        have HT : Hid ((l.take (j + 1)).all FI.right = true) := by show _ = _; rw [unhide HTS, unhide HA]; rfl
        go_wp2_with fail
        exact ⟨⟨j + 1, by omega, by go_num, unhide HT, unhide HB2⟩, by simp [intOf]; omega⟩
    · have e : j = n := by omega
      have hji : ¬ ((j : Nat) : Int) < ((n : Nat) : Int) := by omega
      have HF : Hid (rightF l = decide (n ≤ 40)) := by
        show _ = _
        have h := unhide HA
        rw [List.take_of_length_le (by have := unhide HN; omega)] at h
        rw [unhide HV, h, Bool.and_true]
      clear e hb hlt
      by_cases h40 : n ≤ 40
      · have g40 : ((n : Nat) : Int) ≤ 40 := by omega
        have H40 := hide h40
        clear h40
        go_wp2_with fail
        go_ret
        exact ⟨ret_bool (by rw [unhide HF, decide_eq_true (unhide H40)]), unhide HB⟩
      · have g40 : ¬ ((n : Nat) : Int) ≤ 40 := by omega
        have H40 := hide h40
        clear h40
        go_wp2_with fail
        go_ret
        exact ⟨ret_bool (by rw [unhide HF, decide_eq_false (unhide H40)]), unhide HB⟩
end Go.Proofs.Yteggocgfaejmbaa

namespace Go.Proofs.Yteggocgfaejmbaa
open Go.RowKit

/-- What Few asks. -/
def FewF (l : List FI) : Prop := l.length ≤ 60 ∧ ∀ x ∈ l, x.Small
theorem FewF.small {l : List FI} (h : FewF l) : SmallF l := ⟨by have := h.1; omega, h.2⟩

def FewM (l : List FI) (w : World) (e : Ending) (w' : World) : Prop := (∃ b : Bool, e = .returned (.bool b) ∧ (b = true → FewF l)) ∧ Below w.heap.size w w'

set_option maxRecDepth 100000 in
set_option maxHeartbeats 4000000 in
theorem few_any (l : List FI) (B : Nat → Prop) (u : Value) (w : World) (h : FragAt B w l u) : Calls Try.prog 9 #[u] w (FewM l w) := by
  obtain ⟨a, c, rfl, hlc, hcm, hS⟩ := h
  obtain ⟨n, hn⟩ : ∃ n, n = l.length := ⟨_, rfl⟩
  have hn6 : n ≤ 9223372036854775807 := by unfold maxLen at hcm; omega
  rw [← hn]
  have HN := hide hn
  have HS := hide hS
  have HB0 := hide (Below.refl w.heap.size w)
  clear hn hS hlc hcm
  go_enter Try.func9, Try.ntmps9
  go_wp2_with fail
  go_loopw [9] (fun k W => ∃ j : Nat, j ≤ n ∧ k = .int .i64 ((j : Nat) : Int) ∧ (∀ x ∈ l.take j, x.Small) ∧ Below w.heap.size w W) (fun k _ => n - (intOf k).toNat)
  case atStart => exact ⟨0, by omega, rfl, fun x hx => (by simp at hx), unhide HB0⟩
  case round =>
    obtain ⟨j, hj, rfl, ha, hb⟩ := hrel
    have HB := hide hb
    have HA := hide ha
    clear ha
    by_cases hlt : j < n
    · have hji : ((j : Nat) : Int) < ((n : Nat) : Int) := by omega
      have hjl : j < l.length := by have := unhide HN; omega
      obtain ⟨b, o, z, K, pa, pn, pc, zo, wd, qt, rfl, _, c0, c1, c2, c3, c4, c5, hx⟩ := (unhide HS j hjl).out
      have hk : ∀ {p : Addr} {x : Value}, w.cell? p = some x → wr.cell? p = some x := fun hx => (hb.cell (World.block_lt_of_cell? _ _ hx)).trans hx
      have d0 := hk c0
      have d1 := hk c1
      have d2 := hk c2
      have d3 := hk c3
      have d4 := hk c4
      have d5 := hk c5
      obtain ⟨W4, hW4⟩ : ∃ W4, W4 = wr.alloc (.cells #[.string z, .int .u8 ((K : Nat) : Int), .slice pa pn pc, .string zo, .int .i64 wd, .int .i64 qt] 47) := ⟨_, rfl⟩
      have hb4 : Below wr.heap.size wr W4 := by rw [hW4]; exact (Below.refl _ _).alloc (Nat.le_refl _) _
      have hr4 : W4.heap[wr.heap.size]? = some (.cells #[.string z, .int .u8 ((K : Nat) : Int), .slice pa pn pc, .string zo, .int .i64 wd, .int .i64 qt] 47 (0, 0)) := by rw [hW4]; exact heap_alloc_new wr _
      obtain ⟨i0, i1, i2, i3, i4, i5⟩ := cells6 hr4
      have hb5 : Below w.heap.size w W4 := hb.trans (hb4.mono hb.size)
      have HB4 := hide hb5
      have hp := hx.parts
      have HST : Hid (StrsAt B W4 pa l[j].after) := hp.strs.kept (fun k _ hk => hb5.block k hk) (fun _ h _ => h)
      have HTM : Hid (∀ y, y ∈ l.take (j + 1) → y ∈ l.take j ∨ y = l[j]) := fun y hy => by
        rw [List.take_succ_eq_append_getElem hjl] at hy
        rcases List.mem_append.1 hy with h | h
        · exact .inl h
        · exact .inr (List.mem_singleton.1 h)
      have hsz : z.size = l[j].name.length := by rw [hp.nm]; exact str_size _
      have hso : zo.size = l[j].over.length := by rw [hp.ov]; exact str_size _
      have hpm : pn ≤ 9223372036854775807 := by have h1 := hp.le; have h2 := hp.cm; unfold maxLen at h2; omega
      have HAN := hide hp.an
      have HW4 := hide hW4
      obtain ⟨nz, hnz⟩ : ∃ k, k = l[j].name.length := ⟨_, rfl⟩
      obtain ⟨no, hno⟩ : ∃ k, k = l[j].over.length := ⟨_, rfl⟩
      rw [← hnz] at hsz
      rw [← hno] at hso
      have HNZ := hide hnz
      have HNO := hide hno
      clear c0 c1 c2 c3 c4 c5 hx hk hb hb4 hr4 hb5 hp hW4 hnz hno
      go_upto_region 4 with fail
      rw [← unhide HW4]
      clear HW4 d0 d1 d2 d3 d4 d5
      by_cases h1 : ((pn : Nat) : Int) > 40
      · go_wp2_with fail
        go_ret
        exact ⟨⟨false, rfl, fun h => by cases h⟩, unhide HB4⟩
      by_cases h2 : ((nz : Nat) : Int) > 100
      · go_wp2_with fail
        go_ret
        exact ⟨⟨false, rfl, fun h => by cases h⟩, unhide HB4⟩
      by_cases h3 : ((no : Nat) : Int) > 100
      · go_wp2_with fail
        go_ret
        exact ⟨⟨false, rfl, fun h => by cases h⟩, unhide HB4⟩
      go_wp2_with fail
      go_loopw [32] (fun k W => ∃ i : Nat, i ≤ pn ∧ k = .int .i64 ((i : Nat) : Int) ∧ (∀ s ∈ l[j].after.take i, s.length ≤ 100) ∧ W = W4) (fun k _ => pn - (intOf k).toNat)
      case atStart => exact ⟨0, by omega, rfl, fun x hx => (by simp at hx), rfl⟩
      case round =>
        obtain ⟨i, hi, rfl, hs, hw⟩ := hrel
        rw [hw]
        clear hw
        have HSS := hide hs
        clear hs
        by_cases hil : i < pn
        · have hii : ((i : Nat) : Int) < ((pn : Nat) : Int) := by omega
          have hia : i < l[j].after.length := by have := unhide HAN; omega
          obtain ⟨b5, o5, rfl, _, x0, _⟩ := unhide HST i hia
          have hsz5 := str_size l[j].after[i]
          obtain ⟨m5, hm5⟩ : ∃ k, k = (l[j].after[i]).length := ⟨_, rfl⟩
          rw [← hm5] at hsz5
          have HM5 := hide hm5
          have HTK : Hid (∀ y, y ∈ l[j].after.take (i + 1) → y ∈ l[j].after.take i ∨ y = l[j].after[i]) := fun y hy => by
            rw [List.take_succ_eq_append_getElem hia] at hy
            rcases List.mem_append.1 hy with h | h
            · exact .inl h
            · exact .inr (List.mem_singleton.1 h)
          generalize (⟨(l[j].after[i]).toArray⟩ : ByteArray) = z5 at *
          clear hm5
          by_cases h5 : ((m5 : Nat) : Int) > 100
          · go_wp2_with fail
            go_ret
            exact ⟨⟨false, rfl, fun h => by cases h⟩, unhide HB4⟩
          · have H5 : Hid (m5 ≤ 100) := by show _ ≤ _; omega
            go_wp2_with fail
            exact ⟨⟨i + 1, by omega, by go_num, fun s hs => by
              rcases unhide HTK s hs with h | rfl
              · exact unhide HSS s h
              · rw [← unhide HM5]; exact unhide H5, trivial⟩, by simp [intOf]; omega⟩
        · have e : i = pn := by omega
          have hii : ¬ ((i : Nat) : Int) < ((pn : Nat) : Int) := by omega
          have HSM : Hid (l[j].Small) := by
            show FI.Small _
            refine ⟨by have := unhide HNZ; omega, by have := unhide HNO; omega, by have := unhide HAN; omega, ?_⟩
            have h := unhide HSS
            rwa [List.take_of_length_le (by have := unhide HAN; omega)] at h
          clear e h1 h2 h3
          go_wp2_with fail
          exact ⟨⟨j + 1, by omega, by go_num, fun y hy => by
            rcases unhide HTM y hy with h | rfl
            · exact unhide HA y h
            · exact unhide HSM, unhide HB4⟩, by simp [intOf]; omega⟩
    · have e : j = n := by omega
      have hji : ¬ ((j : Nat) : Int) < ((n : Nat) : Int) := by omega
      have HF : Hid (∀ x ∈ l, x.Small) := by
        show ∀ x ∈ l, x.Small
        have h := unhide HA
        rwa [List.take_of_length_le (by have := unhide HN; omega)] at h
      clear e hb hlt
      go_wp2_with fail
      go_ret
      exact ⟨⟨_, rfl, fun h => ⟨by have := of_decide_eq_true h; have := unhide HN; omega, unhide HF⟩⟩, unhide HB⟩
end Go.Proofs.Yteggocgfaejmbaa

namespace Go.Proofs.Yteggocgfaejmbaa
open Go.RowKit

theorem wRefPlain_any (n : Int) (hn : InR n) (w : World) : Calls Try.prog 58 #[.int .i64 n] w fun e w' => e = .returned (.int .u64 (zz n : Nat)) ∧ w' = w := by
  obtain ⟨h1, h2⟩ := hn
  by_cases h : n < 0
  · have HZ : Hid ((zz n : Int) = -2 * n - 1) := by show _ = _; unfold zz; rw [if_pos h]; omega
    have h' : ¬ n ≥ 0 := by omega
    go_enter Try.func58, Try.ntmps58
    go_wp2
    go_ret
    refine ⟨ret_int ?_, rfl⟩
    rw [unhide HZ]
    try simp only [IntKind.wrap_u64]
    omega
  · have HZ : Hid ((zz n : Int) = 2 * n) := by show _ = _; unfold zz; rw [if_neg h]; omega
    have h' : n ≥ 0 := by omega
    go_enter Try.func58, Try.ntmps58
    go_wp2
    go_ret
    refine ⟨ret_int ?_, rfl⟩
    rw [unhide HZ]

set_option maxRecDepth 100000 in
set_option maxHeartbeats 2000000 in
theorem wRefNum_any (n : Int) (hn : InR n) (w : World) : Calls Try.prog 34 #[.int .i64 n] w fun e w' => ∃ r, e = .returned r ∧ Own w r (numB n) w' := by
  obtain ⟨ti, hti, hz0, hz1, hz2⟩ := infoByte
  have HN := hide hn
  have HT := hide (numB_ten hn)
  clear hn
  go_enter Try.func34, Try.ntmps34
  go_wp2_with fail
  refine (wRefPlain_any n (unhide HN) _).mono ?_
  rintro e w1 ⟨rfl, hw⟩
  rw [hw]
  clear hw w1
  have HZL := hide (zz_lt (unhide HN))
  go_wp2
  go_loopw [3, 4] (fun u r W => ∃ (v : Nat) (pre : List UInt8), u = .int .u64 ((v : Nat) : Int) ∧ v < 18446744073709551616 ∧ pre ++ grp v = numB n ∧ Own w r pre W) (fun u _ _ => (intOf u).toNat)
  case atStart => exact ⟨zz n, [], rfl, unhide HZL, rfl, Own.start w⟩
  case round =>
    obtain ⟨v, pre, rfl, hv, he, hO⟩ := hrel
    have HV := hide hv
    have HO := hide hO
    have HL : Hid (pre.length < (numB n).length) := by
      show _ < _
      have h1 := congrArg List.length he
      have := grp_pos v
      rw [List.length_append] at h1
      omega
    by_cases hlt : 128 ≤ v
    · have hge : ((v : Nat) : Int) ≥ 128 := by omega
      have hx : ((v : Nat) : Int) % 128 + 128 = (((UInt8.ofNat (128 + v % 128)).toNat : Nat) : Int) := by rw [u8_toNat (by omega)]; omega
      have HE : Hid ((pre ++ [UInt8.ofNat (128 + v % 128)]) ++ grp (v / 128) = numB n) := by
        show _ = _
        rw [← he, grp_high hlt, List.append_assoc]; rfl
      generalize UInt8.ofNat (128 + v % 128) = y at *
      have HYB := hide (bytes_one wr y)
      have HOA := hide ((unhide HO).alloc (.cells #[.int .u8 (y.toNat : Nat)] 5))
      clear hO he
      go_wp2_with (at_builtin; refine wpList_append_bytes _ rfl _ _ 23 rfl 5 ti (.int .u8 0) Try.underlying23 hti hz0 hz1 hz2 rfl _ pre rfl (unhide HOA).own _ [y] rfl (unhide HYB) (by have := unhide HL; have := unhide HT; simp; omega) ?_)
      rintro v' w2 r1 r2 r3
      have HO2 := hide ((unhide HOA).grown (cs := pre ++ [y]) (by simpa using r1) r2 (by simpa using r3))
      clear r1 r2 r3
      go_wp2
      exact ⟨⟨v / 128, _, by go_num, by omega, unhide HE, unhide HO2⟩, by simp [intOf]; omega⟩
    · have hge : ¬ ((v : Nat) : Int) ≥ 128 := by omega
      have hx : Hid (((v : Nat) : Int) = (((UInt8.ofNat v).toNat : Nat) : Int)) := by show _ = _; rw [u8_toNat (by omega)]
      have HE : Hid (pre ++ [UInt8.ofNat v] = numB n) := by
        show _ = _
        rw [← he, grp_low (by omega)]
      generalize UInt8.ofNat v = y at *
      have HYB : Hid (Bytes (wr.alloc (.cells #[.int .u8 ((v : Nat) : Int)] 5)) (.slice (some ⟨wr.heap.size, 0, none⟩) 1 1) [y]) := by rw [unhide hx]; exact bytes_one wr y
      have HOA := hide ((unhide HO).alloc (.cells #[.int .u8 ((v : Nat) : Int)] 5))
      clear hO he hv
      go_wp2_with (at_builtin; refine wpList_append_bytes _ rfl _ _ 23 rfl 5 ti (.int .u8 0) Try.underlying23 hti hz0 hz1 hz2 rfl _ pre rfl (unhide HOA).own _ [y] rfl (unhide HYB) (by have := unhide HL; have := unhide HT; simp; omega) ?_)
      rintro v' w2 r1 r2 r3
      have HO2 := hide ((unhide HOA).grown (cs := pre ++ [y]) (by simpa using r1) r2 (by simpa using r3))
      clear r1 r2 r3
      go_wp2
      go_ret
      refine ⟨_, rfl, ?_⟩
      rw [← unhide HE]
      exact unhide HO2

set_option maxRecDepth 100000 in
set_option maxHeartbeats 2000000 in
theorem wRefText_any (s : List UInt8) (hs : s.length ≤ 1048576) (w : World) : Calls Try.prog 35 #[.string ⟨s.toArray⟩] w fun e w' => ∃ r, e = .returned r ∧ Own w r (textB s) w' := by
  obtain ⟨ti, hti, hz0, hz1, hz2⟩ := infoByte
  have hsz : (⟨s.toArray⟩ : ByteArray).size = s.length := by simp [ByteArray.size]
  have hget : ∀ j (h : j < s.length) (h' : j < (⟨s.toArray⟩ : ByteArray).size), (⟨s.toArray⟩ : ByteArray)[j]'h' = s[j]'h := fun j h h' => by
    show s.toArray[j] = s[j]'h
    simp
  obtain ⟨z, hz⟩ : ∃ z : ByteArray, z = ⟨s.toArray⟩ := ⟨_, rfl⟩
  rw [← hz] at hsz hget ⊢
  have HGET := hide hget
  have HN : Hid (InR ((s.length : Nat) : Int)) := by show InR _; unfold InR; omega
  have HT := hide (numB_ten (unhide HN))
  have HTB : Hid (textB s = numB ((s.length : Nat) : Int) ++ s) := rfl
  obtain ⟨n, hn⟩ : ∃ n, n = s.length := ⟨_, rfl⟩
  rw [← hn] at hsz hs HN HT HTB
  have HNS := hide hn
  clear hz hget hn
  go_enter Try.func35, Try.ntmps35
  go_wp2_with fail
  refine (wRefNum_any _ (unhide HN) _).mono ?_
  rintro e w1 ⟨r, rfl, hO⟩
  have HO := hide hO
  clear hO
  go_wp2
  go_loopw [3, 4] (fun r k W => ∃ j : Nat, j ≤ n ∧ k = .int .i64 j ∧ Own w r (numB ((n : Nat) : Int) ++ s.take j) W) (fun _ k _ => n - (intOf k).toNat)
  case atStart => exact ⟨0, by omega, rfl, by simpa using unhide HO⟩
  case round =>
    obtain ⟨j, hj, rfl, hO⟩ := hrel
    have HO := hide hO
    clear hO
    by_cases hlt : j < n
    · have hk1 : (j : Int) < (n : Int) := by omega
      have hjz : j < z.size := by omega
      have HS : Hid (s.take (j + 1) = s.take j ++ [z[j]'hjz]) := by
        show _ = _
        rw [List.take_succ_eq_append_getElem (by have := unhide HNS; omega), unhide HGET j (by have := unhide HNS; omega) hjz]
      have HSL : Hid ((s.take j).length ≤ n) := by show _ ≤ _; rw [List.length_take]; omega
      have HYB := hide (bytes_one wr (z[j]'hjz))
      have HOA := hide ((unhide HO).alloc (.cells #[.int .u8 ((z[j]'hjz).toNat : Nat)] 5))
      go_wp2_with (at_builtin; refine wpList_append_bytes _ rfl _ _ 23 rfl 5 ti (.int .u8 0) Try.underlying23 hti hz0 hz1 hz2 rfl _ _ rfl (unhide HOA).own _ [z[j]'hjz] rfl (unhide HYB) (by have := unhide HSL; have := unhide HT; simp only [List.length_append, List.length_singleton]; omega) ?_)
      rintro v' w2 r1 r2 r3
      have HO2 := hide ((unhide HOA).grown (cs := (numB ((n : Nat) : Int) ++ s.take j) ++ [z[j]'hjz]) (by simpa using r1) r2 (by simpa using r3))
      clear r1 r2 r3
      go_wp2
      exact ⟨⟨j + 1, by omega, by go_num, by rw [unhide HS, ← List.append_assoc]; exact unhide HO2⟩, by simp [intOf]; omega⟩
    · have e : j = n := by omega
      subst e
      have HTK : Hid (s.take j = s) := List.take_of_length_le (by have := unhide HNS; omega)
      rw [unhide HTK] at HO
      go_wp2
      go_ret
      refine ⟨_, rfl, ?_⟩
      rw [unhide HTB]
      exact unhide HO
end Go.Proofs.Yteggocgfaejmbaa

namespace Go.Proofs.Yteggocgfaejmbaa
open Go.RowKit

theorem Sb.later {w0 W W' : World} {g : Nat} {row : Array Value} {r : Value} {bs : List UInt8} (h : Sb w0 g row r bs W) (hb : Below W.heap.size W W') : Sb w0 g row r bs W' :=
  ⟨h.own.later hb, (hb.block _ (Array.getElem?_eq_some_iff.1 h.box).1).trans h.box, h.ne⟩
theorem Sb.grown {w0 W W' : World} {g : Nat} {row : Array Value} {r r' : Value} {bs cs : List UInt8} (h : Sb w0 g row r bs W) (r1 : W'.ownsRow 0 5 1 r' cs.length (cs.map bv)) (r2 : W.grownBy W' r.ownBlock) (r3 : r'.ownBlock = r.ownBlock ∨ ∃ k, r'.ownBlock = some k ∧ W.heap.size ≤ k) : Sb w0 g row r' cs W' :=
  h.put (h.own.grown r1 r2 r3) (GR.of r2 r3)

set_option maxRecDepth 100000 in
set_option maxHeartbeats 4000000 in
theorem rBytes_any (l : List FI) (B : Nat → Prop) (u : Value) (w : World) (h : FragAt B w l u) (hR : rightF l = true) : Calls Try.prog 19 #[u] w fun e w' => ∃ r, e = .returned r ∧ Own w r (bytesF l) w' := by
  obtain ⟨ti, hti, hz0, hz1, hz2⟩ := infoByte
  have hbl := bytesF_le hR
  have hR2 := hR
  unfold rightF at hR2
  simp only [Bool.and_eq_true, decide_eq_true_eq] at hR2
  obtain ⟨hl40, hall⟩ := hR2
  have HR := hide (List.all_eq_true.1 hall)
  obtain ⟨a, c, rfl, hlc, hcm, hS⟩ := h
  obtain ⟨n, hn⟩ : ∃ n, n = l.length := ⟨_, rfl⟩
  rw [← hn]
  have hn6 : n ≤ 40 := by omega
  have HN := hide hn
  have HS := hide hS
  have HL : Hid (∀ j, (numB ((n : Nat) : Int) ++ (l.take j).flatMap FI.bytes).length ≤ 31000) := fun j => by
    have h1 := flat_take_le FI.bytes l j
    unfold bytesF at hbl
    rw [List.length_append] at hbl
    rw [List.length_append, hn]
    omega
  have HCS : Hid (bytesF l = numB ((n : Nat) : Int) ++ (l.take n).flatMap FI.bytes) := by show _ = _; unfold bytesF; rw [hn, List.take_length]
  have HNU := hide (wRefNum_any ((n : Nat) : Int) (by unfold InR; omega) w)
  clear hn hS hlc hcm hbl hR hl40 hall
  go_enter Try.func19, Try.ntmps19
  go_wp2_with fail
  refine (unhide HNU).mono ?_
  rintro e w2 ⟨r2, rfl, hO2⟩
  have HO2 := hide hO2
  clear hO2
  go_wp2_with fail
  go_loopw [3, 4] (fun v k W => ∃ j : Nat, j ≤ n ∧ k = .int .i64 ((j : Nat) : Int) ∧ Own w v (numB ((n : Nat) : Int) ++ (l.take j).flatMap FI.bytes) W) (fun _ k _ => n - (intOf k).toNat)
  case atStart => exact ⟨0, by omega, rfl, by simpa using unhide HO2⟩
  case round =>
    obtain ⟨j, hj, rfl, hO3⟩ := hrel
    by_cases hlt : j < n
    · have hji : ((j : Nat) : Int) < ((n : Nat) : Int) := by omega
      have hjl : j < l.length := by have := unhide HN; omega
      obtain ⟨b, o, z, K, pa, pn, pc, zo, wd, qt, rfl, _, c0, c1, c2', c3', c4, c5, hx⟩ := (unhide HS j hjl).out
      have hk : ∀ {p : Addr} {x : Value}, w.cell? p = some x → wr.cell? p = some x := fun hx => (hO3.bb.cell (World.block_lt_of_cell? _ _ hx)).trans hx
      have d0 := hk c0
      have d1 := hk c1
      have d2 := hk c2'
      have d3 := hk c3'
      have d4 := hk c4
      have d5 := hk c5
      obtain ⟨W4, hW4⟩ : ∃ W4, W4 = wr.alloc (.cells #[.string z, .int .u8 ((K : Nat) : Int), .slice pa pn pc, .string zo, .int .i64 wd, .int .i64 qt] 47) := ⟨_, rfl⟩
      have hb4 : Below wr.heap.size wr W4 := by rw [hW4]; exact (Below.refl _ _).alloc (Nat.le_refl _) _
      have hr4 : W4.heap[wr.heap.size]? = some (.cells #[.string z, .int .u8 ((K : Nat) : Int), .slice pa pn pc, .string zo, .int .i64 wd, .int .i64 qt] 47 (0, 0)) := by rw [hW4]; exact heap_alloc_new wr _
      obtain ⟨P0, hP0⟩ : ∃ P, P = numB ((n : Nat) : Int) ++ (l.take j).flatMap FI.bytes := ⟨_, rfl⟩
      have hP0l : P0.length ≤ 31000 := by rw [hP0]; exact unhide HL j
      rw [← hP0] at hO3
      have HS4 : Hid (Sb w wr.heap.size #[.string z, .int .u8 ((K : Nat) : Int), .slice pa pn pc, .string zo, .int .i64 wd, .int .i64 qt] u3 P0 W4) := ⟨hO3.later hb4, hr4, fun e => by have := (hO3.own.lt _ e).2; omega⟩
      have HTS : Hid (numB ((n : Nat) : Int) ++ (l.take (j + 1)).flatMap FI.bytes = P0 ++ (l[j]).bytes) := by show _ = _; rw [hP0, flat_take_succ FI.bytes hjl, List.append_assoc]
      have hp := hx.parts
      have hxr := unhide HR _ (List.getElem_mem hjl)
      have hxs := FI.right_small hxr
      have hxl := FI.bytes_le hxr
      generalize l[j] = x at *
      have HNM : Hid (∀ W, Calls Try.prog 35 #[.string z] W fun e w' => ∃ r, e = .returned r ∧ Own W r (textB x.name) w') := fun W => by rw [hp.nm]; exact wRefText_any x.name (by have := hxs.1; omega) W
      have HNK : Hid (∀ W, Calls Try.prog 34 #[.int .i64 ((K : Nat) : Int)] W fun e w' => ∃ r, e = .returned r ∧ Own W r (numB ((K : Nat) : Int)) w') := fun W => wRefNum_any _ (by have := hp.fits.kb; rw [hp.kd]; unfold InR; omega) W
      have HNA : Hid (∀ W, Calls Try.prog 34 #[.int .i64 ((pn : Nat) : Int)] W fun e w' => ∃ r, e = .returned r ∧ Own W r (numB ((pn : Nat) : Int)) w') := fun W => wRefNum_any _ (by have := hxs.2.2.1; rw [hp.an]; unfold InR; omega) W
      have HNQ : Hid (∀ W, Calls Try.prog 34 #[.int .i64 qt] W fun e w' => ∃ r, e = .returned r ∧ Own W r (numB qt) w') := fun W => wRefNum_any _ (by rw [hp.qt]; exact hp.fits.qt) W
      have HNO : Hid (∀ W, Calls Try.prog 35 #[.string zo] W fun e w' => ∃ r, e = .returned r ∧ Own W r (textB x.over) w') := fun W => by rw [hp.ov]; exact wRefText_any x.over (by have := hxs.2.1; omega) W
      have HNW : Hid (∀ W, Calls Try.prog 34 #[.int .i64 wd] W fun e w' => ∃ r, e = .returned r ∧ Own W r (numB wd) w') := fun W => wRefNum_any _ (by rw [hp.wd]; exact hp.fits.wd) W
      have HAF : Hid (∀ i (hi : i < x.after.length) W, Calls Try.prog 35 #[.string ⟨(x.after[i]'hi).toArray⟩] W fun e w' => ∃ r, e = .returned r ∧ Own W r (textB (x.after[i]'hi)) w') := fun i hi W => wRefText_any _ (by have := hxs.2.2.2 _ (List.getElem_mem hi); omega) W
      have HST : Hid (∀ X, Below w.heap.size w X → StrsAt B X pa x.after) := fun X hX => hp.strs.kept (fun k _ hk => hX.block k hk) (fun _ h _ => h)
      have HAN := hide hp.an
      have hpn : pn ≤ 40 := by rw [hp.an]; exact hxs.2.2.1
      have hKb : K < 256 := by rw [hp.kd]; exact hp.fits.kb
      have HBY : Hid (P0 ++ x.bytes = P0 ++ textB x.name ++ numB ((K : Nat) : Int) ++ numB ((pn : Nat) : Int) ++ x.after.flatMap textB ++ numB qt ++ (if K = 1 then textB x.over ++ numB wd else [])) := by show _ = _; rw [hp.kd, hp.an, hp.qt, hp.wd]; unfold FI.bytes FI.tail; simp only [List.append_assoc]
      have HLN : Hid (P0.length + (textB x.name).length + (numB ((K : Nat) : Int)).length + (numB ((pn : Nat) : Int)).length + (x.after.flatMap textB).length + (numB qt).length ≤ 40000) := by
        show _ ≤ _
        have h1 := hxl
        unfold FI.bytes at h1
        simp only [List.length_append] at h1
        rw [hp.kd, hp.an, hp.qt]
        omega
      have HLO : Hid ((textB x.over).length + (numB wd).length ≤ 1000) := by
        show _ ≤ _
        have h1 := textB_le hxs.2.1 (by omega)
        have h2 := numB_ten (n := wd) (by rw [hp.wd]; exact hp.fits.wd)
        omega
      have HFL := hide (flat_take_le textB x.after)
      have HFS := hide (fun i (hi : i < x.after.length) => flat_take_succ textB hi)
      obtain ⟨P1, hP1⟩ : ∃ P, P = P0 ++ textB x.name := ⟨_, rfl⟩
      obtain ⟨P2, hP2⟩ : ∃ P, P = P1 ++ numB ((K : Nat) : Int) := ⟨_, rfl⟩
      obtain ⟨P3, hP3⟩ : ∃ P, P = P2 ++ numB ((pn : Nat) : Int) := ⟨_, rfl⟩
      rw [← hP1, ← hP2, ← hP3] at HBY
      have HP3l : Hid (P1.length = P0.length + (textB x.name).length ∧ P2.length = P1.length + (numB ((K : Nat) : Int)).length ∧ P3.length = P2.length + (numB ((pn : Nat) : Int)).length) := ⟨by rw [hP1, List.length_append], by rw [hP2, List.length_append], by rw [hP3, List.length_append]⟩
      have HP1 := hide hP1
      have HP2 := hide hP2
      have HP3 := hide hP3
      have HW4 := hide hW4
      obtain ⟨e0, e1, e2, e3, e4, e5⟩ := (unhide HS4).cells
      clear c0 c1 c2' c3' c4 c5 hx hk hO3 hb4 hr4 hP0 hp hxr hxs hxl hP1 hP2 hP3 hW4
      go_upto_region 6 with fail
      rw [← unhide HW4]
      clear HW4 d0 d1 d2 d3 d4 d5
      go_wp2_with fail
      refine (unhide HNM _).mono ?_
      rintro e w5 ⟨r5, rfl, hO5⟩
      have HS5 := hide ((unhide HS4).later hO5.bb)
      have HB5 := hide hO5.fresh.1.1
      clear hO5 e0 e1 e2 e3 e4 e5 HS4
      go_wp2_with (at_builtin; refine wpList_append_bytes _ rfl _ _ 23 rfl 5 ti (.int .u8 0) Try.underlying23 hti hz0 hz1 hz2 rfl _ P0 rfl (unhide HS5).own.own _ (textB x.name) rfl (unhide HB5) (by have := unhide HLN; omega) ?_)
      rintro v6 w6 r1 r2 r3
      have HS6 : Hid (Sb w wr.heap.size #[.string z, .int .u8 ((K : Nat) : Int), .slice pa pn pc, .string zo, .int .i64 wd, .int .i64 qt] v6 P1 w6) := (unhide HS5).grown (by rw [unhide HP1]; simpa using r1) r2 r3
      clear r1 r2 r3 HS5 HB5
      obtain ⟨e0, e1, e2, e3, e4, e5⟩ := (unhide HS6).cells
      go_wp2_with fail
      refine (unhide HNK _).mono ?_
      rintro e w7 ⟨r7, rfl, hO7⟩
      have HS7 := hide ((unhide HS6).later hO7.bb)
      have HB7 := hide hO7.fresh.1.1
      clear hO7 e0 e1 e2 e3 e4 e5 HS6
      go_wp2_with (at_builtin; refine wpList_append_bytes _ rfl _ _ 23 rfl 5 ti (.int .u8 0) Try.underlying23 hti hz0 hz1 hz2 rfl _ P1 rfl (unhide HS7).own.own _ (numB ((K : Nat) : Int)) rfl (unhide HB7) (by have := unhide HLN; have := unhide HP3l; omega) ?_)
      rintro v8 w8 r1 r2 r3
      have HS8 : Hid (Sb w wr.heap.size #[.string z, .int .u8 ((K : Nat) : Int), .slice pa pn pc, .string zo, .int .i64 wd, .int .i64 qt] v8 P2 w8) := (unhide HS7).grown (by rw [unhide HP2]; simpa using r1) r2 r3
      clear r1 r2 r3 HS7 HB7
      obtain ⟨e0, e1, e2, e3, e4, e5⟩ := (unhide HS8).cells
      go_wp2_with fail
      refine (unhide HNA _).mono ?_
      rintro e w9 ⟨r9, rfl, hO9⟩
      have HS9 := hide ((unhide HS8).later hO9.bb)
      have HB9 := hide hO9.fresh.1.1
      clear hO9 e0 e1 e2 e3 e4 e5 HS8
      go_wp2_with (at_builtin; refine wpList_append_bytes _ rfl _ _ 23 rfl 5 ti (.int .u8 0) Try.underlying23 hti hz0 hz1 hz2 rfl _ P2 rfl (unhide HS9).own.own _ (numB ((pn : Nat) : Int)) rfl (unhide HB9) (by have := unhide HLN; have := unhide HP3l; omega) ?_)
      rintro v10 w10 r1 r2 r3
      have HS10 : Hid (Sb w wr.heap.size #[.string z, .int .u8 ((K : Nat) : Int), .slice pa pn pc, .string zo, .int .i64 wd, .int .i64 qt] v10 P3 w10) := (unhide HS9).grown (by rw [unhide HP3]; simpa using r1) r2 r3
      clear r1 r2 r3 HS9 HB9
      go_wp2_with fail
      go_loopw [3, 6] (fun v k W => ∃ i : Nat, i ≤ pn ∧ k = .int .i64 ((i : Nat) : Int) ∧ Sb w wr.heap.size #[.string z, .int .u8 ((K : Nat) : Int), .slice pa pn pc, .string zo, .int .i64 wd, .int .i64 qt] v (P3 ++ (x.after.take i).flatMap textB) W) (fun _ k _ => pn - (intOf k).toNat)
      case atStart => exact ⟨0, by omega, rfl, by simpa using unhide HS10⟩
      case round =>
        obtain ⟨i, hi, rfl, hS11⟩ := hrel
        have HS11 := hide hS11
        obtain ⟨e0, e1, e2, e3, e4, e5⟩ := hS11.cells
        have HT1 := hide (unhide HST _ hS11.own.bb)
        clear hS11
        by_cases hil : i < pn
        · have hii : ((i : Nat) : Int) < ((pn : Nat) : Int) := by omega
          have hia : i < x.after.length := by have := unhide HAN; omega
          obtain ⟨b5, o5, rfl, _, x0, _⟩ := unhide HT1 i hia
          have HC := hide (unhide HAF i hia)
          have HF1 : Hid (P3 ++ (x.after.take (i + 1)).flatMap textB = (P3 ++ (x.after.take i).flatMap textB) ++ textB x.after[i]) := by show _ = _; rw [unhide HFS i hia, List.append_assoc]
          have HF2 : Hid ((P3 ++ (x.after.take i).flatMap textB).length + (textB x.after[i]).length ≤ 41000) := by
            show _ ≤ _
            have h1 := unhide HFL (i + 1)
            rw [unhide HFS i hia, List.length_append] at h1
            have := unhide HLN
            have := unhide HP3l
            rw [List.length_append]
            omega
          generalize (⟨x.after[i].toArray⟩ : ByteArray) = zz at *
          generalize textB x.after[i] = sb at *
          go_wp2_with fail
          refine (unhide HC _).mono ?_
          rintro e w12 ⟨r12, rfl, hO12⟩
          have HS12 := hide ((unhide HS11).later hO12.bb)
          have HB12 := hide hO12.fresh.1.1
          clear hO12 e0 e1 e2 e3 e4 e5 HS11 x0
          go_wp2_with (at_builtin; refine wpList_append_bytes _ rfl _ _ 23 rfl 5 ti (.int .u8 0) Try.underlying23 hti hz0 hz1 hz2 rfl _ (P3 ++ (x.after.take i).flatMap textB) rfl (unhide HS12).own.own _ sb rfl (unhide HB12) (by have := unhide HF2; omega) ?_)
          rintro v13 w13 r1 r2 r3
          have HS13 : Hid (Sb w _ #[.string z, .int .u8 ((K : Nat) : Int), .slice (some ⟨b5, o5, none⟩) pn pc, .string zo, .int .i64 wd, .int .i64 qt] v13 (P3 ++ (x.after.take (i + 1)).flatMap textB) w13) := (unhide HS12).grown (by rw [unhide HF1]; simpa using r1) r2 r3
          clear r1 r2 r3 HS12 HB12
          go_wp2_with fail
          exact ⟨⟨i + 1, by omega, by go_num, unhide HS13⟩, by simp [intOf]; omega⟩
        · have e : i = pn := by omega
          have hii : ¬ ((i : Nat) : Int) < ((pn : Nat) : Int) := by omega
          obtain ⟨P4, hP4⟩ : ∃ P, P = P3 ++ x.after.flatMap textB := ⟨_, rfl⟩
          have HE4 : Hid (P3 ++ (x.after.take i).flatMap textB = P4) := by show _ = _; rw [hP4, List.take_of_length_le (by have := unhide HAN; omega)]
          rw [unhide HE4] at HS11
          have HP4l : Hid (P4.length = P3.length + (x.after.flatMap textB).length) := by show _ = _; rw [hP4, List.length_append]
          rw [← hP4] at HBY
          obtain ⟨P5, hP5⟩ : ∃ P, P = P4 ++ numB qt := ⟨_, rfl⟩
          rw [← hP5] at HBY
          have HP5 := hide hP5
          have HP5l : Hid (P5.length = P4.length + (numB qt).length) := by show _ = _; rw [hP5, List.length_append]
          clear e hP4 hP5 HE4 hil
          go_wp2_with fail
          refine (unhide HNQ _).mono ?_
          rintro e w14 ⟨r14, rfl, hO14⟩
          have HS14 := hide ((unhide HS11).later hO14.bb)
          have HB14 := hide hO14.fresh.1.1
          clear hO14 e0 e1 e2 e3 e4 e5 HS11
          go_wp2_with (at_builtin; refine wpList_append_bytes _ rfl _ _ 23 rfl 5 ti (.int .u8 0) Try.underlying23 hti hz0 hz1 hz2 rfl _ P4 rfl (unhide HS14).own.own _ (numB qt) rfl (unhide HB14) (by have := unhide HLN; have := unhide HP3l; have := unhide HP4l; omega) ?_)
          rintro v15 w15 r1 r2 r3
          have HS15 : Hid (Sb w _ #[.string z, .int .u8 ((K : Nat) : Int), .slice pa pn pc, .string zo, .int .i64 wd, .int .i64 qt] v15 P5 w15) := (unhide HS14).grown (by rw [unhide HP5]; simpa using r1) r2 r3
          clear r1 r2 r3 HS14 HB14
          obtain ⟨e0, e1, e2, e3, e4, e5⟩ := (unhide HS15).cells
          by_cases k1 : K = 1
          · have g1 : (((K : Nat) : Int) == 1) = true := by rw [beq_iff_eq]; omega
            rw [if_pos k1] at HBY
            obtain ⟨P6, hP6⟩ : ∃ P, P = P5 ++ textB x.over := ⟨_, rfl⟩
            have HBY2 : Hid (P0 ++ x.bytes = P6 ++ numB wd) := by show _ = _; rw [hP6, List.append_assoc]; exact unhide HBY
            have HP6 := hide hP6
            have HP6l : Hid (P6.length = P5.length + (textB x.over).length) := by show _ = _; rw [hP6, List.length_append]
            clear k1 hP6
            go_wp2_with fail
            refine (unhide HNO _).mono ?_
            rintro e w16 ⟨r16, rfl, hO16⟩
            have HS16 := hide ((unhide HS15).later hO16.bb)
            have HB16 := hide hO16.fresh.1.1
            clear hO16 e0 e1 e2 e3 e4 e5 HS15
            go_wp2_with (at_builtin; refine wpList_append_bytes _ rfl _ _ 23 rfl 5 ti (.int .u8 0) Try.underlying23 hti hz0 hz1 hz2 rfl _ P5 rfl (unhide HS16).own.own _ (textB x.over) rfl (unhide HB16) (by have := unhide HLN; have := unhide HP3l; have := unhide HP4l; have := unhide HP5l; have := unhide HLO; omega) ?_)
            rintro v17 w17 r1 r2 r3
            have HS17 : Hid (Sb w _ #[.string z, .int .u8 ((K : Nat) : Int), .slice pa pn pc, .string zo, .int .i64 wd, .int .i64 qt] v17 P6 w17) := (unhide HS16).grown (by rw [unhide HP6]; simpa using r1) r2 r3
            clear r1 r2 r3 HS16 HB16
            obtain ⟨e0, e1, e2, e3, e4, e5⟩ := (unhide HS17).cells
            go_wp2_with fail
            refine (unhide HNW _).mono ?_
            rintro e w18 ⟨r18, rfl, hO18⟩
            have HS18 := hide ((unhide HS17).later hO18.bb)
            have HB18 := hide hO18.fresh.1.1
            clear hO18 e0 e1 e2 e3 e4 e5 HS17
            go_wp2_with (at_builtin; refine wpList_append_bytes _ rfl _ _ 23 rfl 5 ti (.int .u8 0) Try.underlying23 hti hz0 hz1 hz2 rfl _ P6 rfl (unhide HS18).own.own _ (numB wd) rfl (unhide HB18) (by have := unhide HLN; have := unhide HP3l; have := unhide HP4l; have := unhide HP5l; have := unhide HP6l; have := unhide HLO; omega) ?_)
            rintro v19 w19 r1 r2 r3
            have HO19 : Hid (Own w v19 (numB ((n : Nat) : Int) ++ (l.take (j + 1)).flatMap FI.bytes) w19) := by
              show Own _ _ _ _
              rw [unhide HTS, unhide HBY2]
              exact (unhide HS18).own.grown (by simpa using r1) r2 r3
            clear r1 r2 r3 HS18 HB18
            go_wp2_with fail
            exact ⟨⟨j + 1, by omega, by go_num, unhide HO19⟩, by simp [intOf]; omega⟩
          · have g1 : (((K : Nat) : Int) == 1) = false := by rw [beq_eq_false_iff_ne]; omega
            rw [if_neg k1, List.append_nil] at HBY
            have HO19 : Hid (Own w v15 (numB ((n : Nat) : Int) ++ (l.take (j + 1)).flatMap FI.bytes) w15) := by
              show Own _ _ _ _
              rw [unhide HTS, unhide HBY]
              exact (unhide HS15).own
            clear k1
            go_wp2_with fail
            exact ⟨⟨j + 1, by omega, by go_num, unhide HO19⟩, by simp [intOf]; omega⟩
    · have e : j = n := by omega
      have hji : ¬ ((j : Nat) : Int) < ((n : Nat) : Int) := by omega
      have HO4 : Hid (Own w u3 (bytesF l) wr) := by
        show Own _ _ _ _
        rw [unhide HCS]
        rw [e] at hO3
        exact hO3
      clear e hO3
      go_wp2_with fail
      go_ret
      exact ⟨_, rfl, unhide HO4⟩
end Go.Proofs.Yteggocgfaejmbaa
