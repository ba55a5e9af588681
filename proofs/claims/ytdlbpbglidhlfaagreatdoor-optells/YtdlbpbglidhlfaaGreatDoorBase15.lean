/- OpSame, FragRefA, FragFew, ValRefH, ValRefI, OpAwake: our own definitions and contracts; no statement of the seat is proved here. -/
import Derived.Test.YtdlbpbglidhlfaaGreatDoorBase11
import Derived.Test.YtdlbpbglidhlfaaGreatDoorBase14
import Derived.Test.YtdlbpbglidhlfaaGreatDoorBase10
import Derived.Test.YtdlbpbglidhlfaaGreatDoorBase06
import Derived.Test.YtdlbpbglidhlfaaGreatDoorBase12
import Derived.Test.YtdlbpbglidhlfaaGreatDoorBase08
namespace Go.Proofs.YtdlbpbglidhlfaaGreatDoor
open Go.RowKit

theorem OD.same_parts (o p : OD) : o.same p = (decide (o.what = p.what) && (decide (o.id = p.id) && (decide (o.token = p.token) && (decide (o.quota = p.quota) && (o.value.same p.value && sameF o.frag p.frag))))) := by
  unfold OD.same
  simp only [Bool.and_assoc]
theorem alloc2_nine (w : World) (r1 r2 : Array Value) (t : TypeId) : Below w.heap.size w ((w.alloc (.cells r1 t)).alloc (.cells r2 t)) ∧ ((w.alloc (.cells r1 t)).alloc (.cells r2 t)).heap[w.heap.size]? = some (.cells r1 t (0, 0)) ∧ ((w.alloc (.cells r1 t)).alloc (.cells r2 t)).heap[w.heap.size + 1]? = some (.cells r2 t (0, 0)) := by
  have h0 : Below w.heap.size w (w.alloc (.cells r1 t)) := (Below.refl _ _).alloc (Nat.le_refl _) _
  have h1 : Below (w.heap.size + 1) (w.alloc (.cells r1 t)) ((w.alloc (.cells r1 t)).alloc (.cells r2 t)) := (Below.refl _ _).alloc (by simp) _
  refine ⟨h0.alloc h0.size _, ?_, ?_⟩
  · rw [h1.block _ (by omega)]; exact heap_alloc_new _ _
  · have := heap_alloc_new (w.alloc (.cells r1 t)) (.cells r2 t)
    rwa [show (w.alloc (.cells r1 t)).heap.size = w.heap.size + 1 by simp] at this

set_option maxRecDepth 100000 in
set_option maxHeartbeats 4000000 in
theorem oSame_any (o p : OD) (B B2 : Nat → Prop) (u u2 : Value) (w : World) (h : o.At B w u) (h2 : p.At B2 w u2) (hl : o.Lt) : Calls Tryz.prog 11 #[u, u2] w fun e w' => e = .returned (.bool (o.same p)) ∧ Below w.heap.size w w' := by
  obtain ⟨L, s, t, K, N, z, a, m, c, fa, fn, fc, q, rfl, hp⟩ := h.form
  obtain ⟨L', s', t', K', N', z', a', m', c', fa', fn', fc', q', rfl, hp'⟩ := h2.form
  unfold OD.form9
  obtain ⟨W1, hW1⟩ : ∃ W1, W1 = (w.alloc (.cells #[.int .u8 ((L : Nat) : Int), .string s, .int .i64 t, .int .u8 ((K : Nat) : Int), .int .i64 N, .string z, .slice a m c, .slice fa fn fc, .int .i64 q] 27)).alloc (.cells #[.int .u8 ((L' : Nat) : Int), .string s', .int .i64 t', .int .u8 ((K' : Nat) : Int), .int .i64 N', .string z', .slice a' m' c', .slice fa' fn' fc', .int .i64 q'] 27) := ⟨_, rfl⟩
  obtain ⟨hb1, hg1, hg2⟩ := alloc2_nine w #[.int .u8 ((L : Nat) : Int), .string s, .int .i64 t, .int .u8 ((K : Nat) : Int), .int .i64 N, .string z, .slice a m c, .slice fa fn fc, .int .i64 q] #[.int .u8 ((L' : Nat) : Int), .string s', .int .i64 t', .int .u8 ((K' : Nat) : Int), .int .i64 N', .string z', .slice a' m' c', .slice fa' fn' fc', .int .i64 q'] 27
  rw [← hW1] at hb1 hg1 hg2
  have HB1 := hide hb1
  have HVS : Hid (Calls Tryz.prog 28 #[.agg #[.int .u8 ((K : Nat) : Int), .int .i64 N, .string z, .slice a m c], .agg #[.int .u8 ((K' : Nat) : Int), .int .i64 N', .string z', .slice a' m' c']] W1 fun e w' => e = .returned (.bool (o.value.same p.value)) ∧ Below W1.heap.size W1 w') := same_any o.value p.value B B2 _ _ W1 (hp.later hb1).value (hp'.later hb1).value hl.1 hl.2
  have HFS : Hid (∀ X, Below W1.heap.size W1 X → Calls Tryz.prog 29 #[.slice fa fn fc, .slice fa' fn' fc'] X fun e w' => e = .returned (.bool (sameF o.frag p.frag)) ∧ Below X.heap.size X w') := fun X hX => fSame_any o.frag p.frag B B2 _ _ X ((hp.later hb1).frag.later hX) ((hp'.later hb1).frag.later hX)
  have hse := str_eq o.id p.id
  rw [← hp.id, ← hp'.id] at hse
  have hle : (((L : Nat) : Int) == ((L' : Nat) : Int)) = decide (o.what = p.what) := by rw [hp.wh, hp'.wh, Bool.eq_iff_iff, beq_iff_eq, decide_eq_true_eq]; omega
  have hte : (t == t') = decide (o.token = p.token) := by rw [hp.tk, hp'.tk, Bool.eq_iff_iff, beq_iff_eq, decide_eq_true_eq]
  have hqe : (q == q') = decide (o.quota = p.quota) := by rw [hp.qt, hp'.qt, Bool.eq_iff_iff, beq_iff_eq, decide_eq_true_eq]
  have HV := hide (OD.same_parts o p)
  obtain ⟨d0, d1, d2, d3, d4, d5, d6, d7, d8⟩ := cells9 hg1
  obtain ⟨k0, k1, k2, k3, k4, k5, k6, k7, k8⟩ := cells9 hg2
  generalize decide (o.what = p.what) = e0 at *
  generalize decide (o.id = p.id) = e1 at *
  generalize decide (o.token = p.token) = e2 at *
  generalize decide (o.quota = p.quota) = e3 at *
  generalize o.value.same p.value = e4 at *
  generalize sameF o.frag p.frag = e5 at *
  generalize o.same p = rr at *
  clear hp hp' hg1 hg2 hb1 h h2 hl
  go_enter Tryz.func11, Tryz.ntmps11
  go_upto_region 1 with fail
  rw [← hW1]
  clear hW1
  cases e0 with
  | false =>
    have HE : Hid (rr = false) := by show _ = _; rw [unhide HV]; rfl
    go_wp2_with fail
    go_ret
    exact ⟨ret_bool (unhide HE).symm, unhide HB1⟩
  | true =>
  cases e1 with
  | false =>
    have HE : Hid (rr = false) := by show _ = _; rw [unhide HV]; rfl
    go_wp2_with fail
    go_ret
    exact ⟨ret_bool (unhide HE).symm, unhide HB1⟩
  | true =>
  cases e2 with
  | false =>
    have HE : Hid (rr = false) := by show _ = _; rw [unhide HV]; rfl
    go_wp2_with fail
    go_ret
    exact ⟨ret_bool (unhide HE).symm, unhide HB1⟩
  | true =>
  cases e3 with
  | false =>
    have HE : Hid (rr = false) := by show _ = _; rw [unhide HV]; rfl
    go_wp2_with fail
    go_ret
    exact ⟨ret_bool (unhide HE).symm, unhide HB1⟩
  | true =>
  have HE : Hid (rr = (e4 && e5)) := by show _ = _; rw [unhide HV]; simp
  go_wp2_with fail
  refine (unhide HVS).mono ?_
  rintro e w2 ⟨rfl, hb2⟩
  have HB2 := hide hb2
  have hk : ∀ {p : Addr} {x : Value}, W1.cell? p = some x → w2.cell? p = some x := fun hx => (hb2.cell (World.block_lt_of_cell? _ _ hx)).trans hx
  have d7' := hk d7
  have k7' := hk k7
  clear hb2 hk d0 d1 d2 d3 d4 d5 d6 d7 d8 k0 k1 k2 k3 k4 k5 k6 k7 k8
  cases e4 with
  | false =>
    go_wp2_with fail
    go_ret
    exact ⟨ret_bool (unhide HE).symm, (unhide HB1).trans ((unhide HB2).mono (unhide HB1).size)⟩
  | true =>
    go_wp2_with fail
    refine (unhide HFS _ (unhide HB2)).mono ?_
    rintro e w3 ⟨rfl, hb3⟩
    have HB3 := hide ((unhide HB2).trans (hb3.mono (unhide HB2).size))
    clear hb3
    go_wp2_with fail
    go_ret
    exact ⟨ret_bool (unhide HE).symm, (unhide HB1).trans ((unhide HB3).mono (unhide HB1).size)⟩
end Go.Proofs.YtdlbpbglidhlfaaGreatDoor

namespace Go.Proofs.YtdlbpbglidhlfaaGreatDoor
open Go.RowKit

/-- A light item, a light fragment. -/
def FI.Small (x : FI) : Prop := x.name.length ≤ 100 ∧ x.over.length ≤ 100 ∧ x.after.length ≤ 40 ∧ ∀ s ∈ x.after, s.length ≤ 100
def SmallF (l : List FI) : Prop := l.length ≤ 100 ∧ ∀ x ∈ l, x.Small
theorem FI.right_small {x : FI} (h : x.right = true) : x.Small := by
  rw [FI.right_parts] at h
  simp only [Bool.and_eq_true, decide_eq_true_eq] at h
  obtain ⟨h1, h2, h3, _, h5⟩ := h
  refine ⟨by have := nameB_len h1; omega, ?_, by omega, fun s hs => by have := nameB_len (List.all_eq_true.1 h3 s hs); omega⟩
  unfold FI.kindOk at h5
  simp only [Bool.or_eq_true, Bool.and_eq_true, decide_eq_true_eq, List.isEmpty_iff] at h5
  rcases h5 with ⟨⟨_, h⟩, _⟩ | ⟨⟨⟨_, h⟩, _⟩, _⟩
  · rw [h]; exact Nat.zero_le _
  · have := nameB_len h; omega
theorem rightF_small {l : List FI} (h : rightF l = true) : SmallF l := by
  unfold rightF at h
  simp only [Bool.and_eq_true, decide_eq_true_eq] at h
  exact ⟨by omega, fun x hx => FI.right_small (List.all_eq_true.1 h.2 x hx)⟩

set_option maxRecDepth 100000 in
set_option maxHeartbeats 4000000 in
theorem rItem_any (x : FI) (B : Nat → Prop) (u : Value) (w : World) (h : x.At B w u) (hsm : x.Small) : Calls Tryz.prog 39 #[u] w fun e w' => e = .returned (.bool x.right) ∧ Below w.heap.size w w' := by
  obtain ⟨z, K, pa, pn, pc, zo, wd, qt, rfl⟩ := h.form
  have hp := h.parts
  obtain ⟨W1, hW1⟩ : ∃ W1, W1 = w.alloc (.cells #[.string z, .int .u8 ((K : Nat) : Int), .slice pa pn pc, .string zo, .int .i64 wd, .int .i64 qt] 62) := ⟨_, rfl⟩
  have hb1 : Below w.heap.size w W1 := by rw [hW1]; exact (Below.refl _ w).alloc (Nat.le_refl _) _
  have hr1 : W1.heap[w.heap.size]? = some (.cells #[.string z, .int .u8 ((K : Nat) : Int), .slice pa pn pc, .string zo, .int .i64 wd, .int .i64 qt] 62 (0, 0)) := by rw [hW1]; exact heap_alloc_new w _
  obtain ⟨a0, a1, a2, a3, a4, a5⟩ := cells6 hr1
  have HB1 := hide hb1
  have HW1 := hide hW1
  have HV : Hid (x.right = (nameB x.name && (decide (pn ≤ 20) && (x.after.all nameB && ((decide (0 ≤ qt) && decide (qt ≤ 400)) && x.kindOk nameB))))) := by show _ = _; rw [FI.right_parts, hp.an, hp.qt]
  have HNM : Hid (∀ W, Calls Tryz.prog 65 #[.string z] W fun e w' => e = .returned (.bool (nameB x.name)) ∧ w' = W) := fun W => by rw [hp.nm]; exact rName_any x.name (by have := hsm.1; omega) W
  have HNO : Hid (∀ W, Calls Tryz.prog 65 #[.string zo] W fun e w' => e = .returned (.bool (nameB x.over)) ∧ w' = W) := fun W => by rw [hp.ov]; exact rName_any x.over (by have := hsm.2.1; omega) W
  have HKV : Hid (x.kindOk nameB = ((decide (K = 0) && x.over.isEmpty && decide (wd = 0)) || (decide (K = 1) && nameB x.over && decide (0 ≤ wd) && decide (wd ≤ 40)))) := by show _ = _; rw [hp.kd, hp.wd]; rfl
  have hze := str_empty x.over
  rw [← hp.ov] at hze
  have HST : Hid (StrsAt B W1 pa x.after) := hp.strs.kept (fun k _ hk => hb1.block k hk) (fun _ h _ => h)
  have HAN := hide hp.an
  have HAS : Hid (∀ j (h : j < x.after.length), ∀ W, Calls Tryz.prog 65 #[.string ⟨(x.after[j]'h).toArray⟩] W fun e w' => e = .returned (.bool (nameB (x.after[j]'h))) ∧ w' = W) := fun j h W => rName_any _ (by have := hsm.2.2.2 _ (List.getElem_mem h); omega) W
  have hp40 : pn ≤ 40 := by rw [hp.an]; exact hsm.2.2.1
  generalize nameB x.name = bn at *
  generalize x.over.isEmpty = oe at *
  generalize nameB x.over = on at *
  clear h hsm hp hb1 hr1 hW1
  go_enter Tryz.func39, Tryz.ntmps39
  go_upto_region 1 with fail
  rw [← unhide HW1]
  clear HW1
  go_wp2_with fail
  refine (unhide HNM _).mono ?_
  rintro e w2 ⟨rfl, hw⟩
  rw [hw]
  clear hw w2
  cases bn with
  | false =>
    go_wp2_with fail
    go_ret
    exact ⟨ret_bool (unhide HV).symm, unhide HB1⟩
  | true =>
  by_cases h20 : pn ≤ 20
  case neg =>
    have g20 : ((pn : Nat) : Int) > 20 := by omega
    have HV2 : Hid (x.right = false) := by show _ = _; rw [unhide HV, decide_eq_false h20]; simp
    clear h20
    go_wp2_with fail
    go_ret
    exact ⟨ret_bool (unhide HV2).symm, unhide HB1⟩
  have g20 : ¬ ((pn : Nat) : Int) > 20 := by omega
  by_cases hq0 : 0 ≤ qt
  case neg =>
    have gq : qt < 0 := by omega
    have HV2 : Hid (x.right = false) := by show _ = _; rw [unhide HV, decide_eq_false hq0]; simp
    clear h20 hq0
    go_wp2_with fail
    go_ret
    exact ⟨ret_bool (unhide HV2).symm, unhide HB1⟩
  have gq : ¬ qt < 0 := by omega
  by_cases hq4 : qt ≤ 400
  case neg =>
    have gq4 : qt > 400 := by omega
    have HV2 : Hid (x.right = false) := by show _ = _; rw [unhide HV, decide_eq_false hq4]; simp
    clear h20 hq0 hq4
    go_wp2_with fail
    go_ret
    exact ⟨ret_bool (unhide HV2).symm, unhide HB1⟩
  have gq4 : ¬ qt > 400 := by omega
  have HV2 : Hid (x.right = (x.after.all nameB && x.kindOk nameB)) := by show _ = _; rw [unhide HV, decide_eq_true h20, decide_eq_true hq0, decide_eq_true hq4]; simp
  clear h20 hq0 hq4 HV
  go_wp2_with fail
  go_loopw [3] (fun k W => ∃ j : Nat, j ≤ pn ∧ k = .int .i64 ((j : Nat) : Int) ∧ (x.after.take j).all nameB = true ∧ W = W1) (fun k _ => pn - (intOf k).toNat)
  case atStart => exact ⟨0, by omega, rfl, rfl, rfl⟩
  case round =>
    obtain ⟨j, hj, rfl, ha, hw⟩ := hrel
    rw [hw]
    clear hw
    have HA := hide ha
    clear ha
    by_cases hlt : j < pn
    · have hji : ((j : Nat) : Int) < ((pn : Nat) : Int) := by omega
      have hjl : j < x.after.length := by have := unhide HAN; omega
      obtain ⟨b, o, rfl, _, hc, _⟩ := unhide HST j hjl
      have HTS := hide (allL_take_succ (p := nameB) hjl)
      have HTF := hide (allL_false (p := nameB) hjl)
      have HC := hide (unhide HAS j hjl)
      generalize (⟨x.after[j].toArray⟩ : ByteArray) = zz at *
      generalize nameB x.after[j] = q at *
      go_wp2_with fail
      refine (unhide HC _).mono ?_
      rintro e w2 ⟨rfl, hw⟩
      rw [hw]
      clear hw w2
      cases q with
      | false =>
        have HF : Hid (x.right = false) := by show _ = _; rw [unhide HV2, unhide HTF rfl]; rfl
        go_wp2_with fail
        go_ret
        exact ⟨ret_bool (unhide HF).symm, unhide HB1⟩
      | true =>
        have HT : Hid ((x.after.take (j + 1)).all nameB = true) := by show _ = _; rw [unhide HTS, unhide HA]; rfl
        go_wp2_with fail
        exact ⟨⟨j + 1, by omega, by go_num, unhide HT, trivial⟩, by simp [intOf]; omega⟩
    · have e : j = pn := by omega
      have hji : ¬ ((j : Nat) : Int) < ((pn : Nat) : Int) := by omega
      have HV3 : Hid (x.right = x.kindOk nameB) := by
        show _ = _
        have h := unhide HA
        rw [List.take_of_length_le (by have := unhide HAN; omega)] at h
        rw [unhide HV2, h]; rfl
      clear e HV2 HA hlt
      by_cases k0 : K = 0
      · have g0 : (((K : Nat) : Int) == 0) = true := by rw [beq_iff_eq]; omega
        have HV4 : Hid (x.right = (oe && decide (wd = 0))) := by show _ = _; rw [unhide HV3, unhide HKV, k0]; simp
        clear k0 HKV
        cases oe with
        | false =>
          go_wp2_with fail
          go_ret
          exact ⟨ret_bool (unhide HV4).symm, unhide HB1⟩
        | true =>
          by_cases hw0 : wd = 0
          · have gw : (wd == 0) = true := beq_iff_eq.2 hw0
            have HW0 := hide hw0
            clear hw0
            go_wp2_with fail
            go_ret
            exact ⟨ret_bool (by rw [unhide HV4, decide_eq_true (unhide HW0)]; rfl), unhide HB1⟩
          · have gw : (wd == 0) = false := beq_eq_false_iff_ne.2 hw0
            have HW0 := hide hw0
            clear hw0
            go_wp2_with fail
            go_ret
            exact ⟨ret_bool (by rw [unhide HV4, decide_eq_false (unhide HW0)]; rfl), unhide HB1⟩
      have g0 : (((K : Nat) : Int) == 0) = false := by rw [beq_eq_false_iff_ne]; omega
      clear hze
      by_cases k1 : K = 1
      case neg =>
        have g1 : (((K : Nat) : Int) == 1) = false := by rw [beq_eq_false_iff_ne]; omega
        have HV4 : Hid (x.right = false) := by show _ = _; rw [unhide HV3, unhide HKV, decide_eq_false k0, decide_eq_false k1]; simp
        clear k0 k1 HKV
        go_wp2_with fail
        go_ret
        exact ⟨ret_bool (unhide HV4).symm, unhide HB1⟩
      have g1 : (((K : Nat) : Int) == 1) = true := by rw [beq_iff_eq]; omega
      have HV4 : Hid (x.right = (on && (decide (0 ≤ wd) && decide (wd ≤ 40)))) := by show _ = _; rw [unhide HV3, unhide HKV, k1]; simp [Bool.and_assoc]
      clear k0 k1 HKV
      go_wp2_with fail
      refine (unhide HNO _).mono ?_
      rintro e w2 ⟨rfl, hw⟩
      rw [hw]
      clear hw w2
      cases on with
      | false =>
        go_wp2_with fail
        go_ret
        exact ⟨ret_bool (unhide HV4).symm, unhide HB1⟩
      | true =>
        by_cases hw0 : 0 ≤ wd
        case neg =>
          have gw : ¬ wd ≥ 0 := by omega
          have HV5 : Hid (x.right = false) := by show _ = _; rw [unhide HV4, decide_eq_false hw0]; simp
          clear hw0
          go_wp2_with fail
          go_ret
          exact ⟨ret_bool (unhide HV5).symm, unhide HB1⟩
        have gw : wd ≥ 0 := by omega
        by_cases hw4 : wd ≤ 40
        · have HV5 : Hid (x.right = true) := by show _ = _; rw [unhide HV4, decide_eq_true hw0, decide_eq_true hw4]; rfl
          clear hw0
          go_wp2_with fail
          go_ret
          exact ⟨ret_bool (unhide HV5).symm, unhide HB1⟩
        · have HV5 : Hid (x.right = false) := by show _ = _; rw [unhide HV4, decide_eq_false hw4]; simp
          have HW4 := hide hw4
          clear hw0
          go_wp2_with fail
          go_ret
          exact ⟨ret_bool (by rw [unhide HV5]; exact decide_eq_false (by have := unhide HW4; omega)), unhide HB1⟩

set_option maxRecDepth 100000 in
set_option maxHeartbeats 2000000 in
theorem rRight_any (l : List FI) (B : Nat → Prop) (u : Value) (w : World) (h : FragAt B w l u) (hsm : SmallF l) : Calls Tryz.prog 20 #[u] w fun e w' => e = .returned (.bool (rightF l)) ∧ Below w.heap.size w w' := by
  obtain ⟨a, c, rfl, hlc, hcm, hS⟩ := h
  obtain ⟨n, hn⟩ : ∃ n, n = l.length := ⟨_, rfl⟩
  have hn6 : n ≤ 100 := by rw [hn]; exact hsm.1
  rw [← hn]
  have HN := hide hn
  have HS := hide hS
  have HSM := hide hsm.2
  have HB0 := hide (Below.refl w.heap.size w)
  have HV : Hid (rightF l = (decide (n ≤ 40) && l.all FI.right)) := by show _ = _; rw [hn]; rfl
  clear hn hS hlc hcm hsm
  go_enter Tryz.func20, Tryz.ntmps20
  go_wp2_with fail
  go_loopw [3] (fun k W => ∃ j : Nat, j ≤ n ∧ k = .int .i64 ((j : Nat) : Int) ∧ (l.take j).all FI.right = true ∧ Below w.heap.size w W) (fun k _ => n - (intOf k).toNat)
  case atStart => exact ⟨0, by omega, rfl, rfl, unhide HB0⟩
  case round =>
    obtain ⟨j, hj, rfl, ha, hb⟩ := hrel
    have HB := hide hb
    have HA := hide ha
    clear ha
    by_cases hlt : j < n
    · have hji : ((j : Nat) : Int) < ((n : Nat) : Int) := by omega
      have hjl : j < l.length := by have := unhide HN; omega
      obtain ⟨b, o, z, K, pa, pn, pc, zo, wd, qt, rfl, _, c0, c1, c2, c3, c4, c5, hx⟩ := (unhide HS j hjl).out
      have hk : ∀ {p : Addr} {x : Value}, w.cell? p = some x → wr.cell? p = some x := fun hx => (hb.cell (World.block_lt_of_cell? _ _ hx)).trans hx
      have d0 := hk c0
      have d1 := hk c1
      have d2 := hk c2
      have d3 := hk c3
      have d4 := hk c4
      have d5 := hk c5
      have HTS := hide (allL_take_succ (p := FI.right) hjl)
      have HTF := hide (allL_false (p := FI.right) hjl)
      have HC := hide (rItem_any l[j] B _ wr (hx.later hb) (unhide HSM _ (List.getElem_mem hjl)))
      generalize FI.right l[j] = q at *
      clear c0 c1 c2 c3 c4 c5 hx hk hb
      go_wp2_with fail
      refine (unhide HC).mono ?_
      rintro e w2 ⟨rfl, hb2⟩
      have HB2 := hide ((unhide HB).trans (hb2.mono (unhide HB).size))
      clear hb2 d0 d1 d2 d3 d4 d5
      cases q with
      | false =>
        have HF : Hid (rightF l = false) := by show _ = _; rw [unhide HV, unhide HTF rfl, Bool.and_false]
        go_wp2_with fail
        go_ret
        exact ⟨ret_bool (unhide HF).symm, unhide HB2⟩
      | true =>
        have HT : Hid ((l.take (j + 1)).all FI.right = true) := by show _ = _; rw [unhide HTS, unhide HA]; rfl
        go_wp2_with fail
        exact ⟨⟨j + 1, by omega, by go_num, unhide HT, unhide HB2⟩, by simp [intOf]; omega⟩
    · have e : j = n := by omega
      have hji : ¬ ((j : Nat) : Int) < ((n : Nat) : Int) := by omega
      have HF : Hid (rightF l = decide (n ≤ 40)) := by
        show _ = _
        have h := unhide HA
        rw [List.take_of_length_le (by have := unhide HN; omega)] at h
        rw [unhide HV, h, Bool.and_true]
      clear e hb hlt
      by_cases h40 : n ≤ 40
      · have g40 : ((n : Nat) : Int) ≤ 40 := by omega
        have H40 := hide h40
        clear h40
        go_wp2_with fail
        go_ret
        exact ⟨ret_bool (by rw [unhide HF, decide_eq_true (unhide H40)]), unhide HB⟩
      · have g40 : ¬ ((n : Nat) : Int) ≤ 40 := by omega
        have H40 := hide h40
        clear h40
        go_wp2_with fail
        go_ret
        exact ⟨ret_bool (by rw [unhide HF, decide_eq_false (unhide H40)]), unhide HB⟩
end Go.Proofs.YtdlbpbglidhlfaaGreatDoor

namespace Go.Proofs.YtdlbpbglidhlfaaGreatDoor
open Go.RowKit

/-- What Few asks. -/
def FewF (l : List FI) : Prop := l.length ≤ 60 ∧ ∀ x ∈ l, x.Small
theorem FewF.small {l : List FI} (h : FewF l) : SmallF l := ⟨by have := h.1; omega, h.2⟩

def FewM (l : List FI) (w : World) (e : Ending) (w' : World) : Prop := (∃ b : Bool, e = .returned (.bool b) ∧ (b = true → FewF l)) ∧ Below w.heap.size w w'

set_option maxRecDepth 100000 in
set_option maxHeartbeats 4000000 in
theorem few_any (l : List FI) (B : Nat → Prop) (u : Value) (w : World) (h : FragAt B w l u) : Calls Tryz.prog 18 #[u] w (FewM l w) := by
  obtain ⟨a, c, rfl, hlc, hcm, hS⟩ := h
  obtain ⟨n, hn⟩ : ∃ n, n = l.length := ⟨_, rfl⟩
  have hn6 : n ≤ 9223372036854775807 := by unfold maxLen at hcm; omega
  rw [← hn]
  have HN := hide hn
  have HS := hide hS
  have HB0 := hide (Below.refl w.heap.size w)
  clear hn hS hlc hcm
  go_enter Tryz.func18, Tryz.ntmps18
  go_wp2_with fail
  go_loopw [9] (fun k W => ∃ j : Nat, j ≤ n ∧ k = .int .i64 ((j : Nat) : Int) ∧ (∀ x ∈ l.take j, x.Small) ∧ Below w.heap.size w W) (fun k _ => n - (intOf k).toNat)
  case atStart => exact ⟨0, by omega, rfl, fun x hx => (by simp at hx), unhide HB0⟩
  case round =>
    obtain ⟨j, hj, rfl, ha, hb⟩ := hrel
    have HB := hide hb
    have HA := hide ha
    clear ha
    by_cases hlt : j < n
    · have hji : ((j : Nat) : Int) < ((n : Nat) : Int) := by omega
      have hjl : j < l.length := by have := unhide HN; omega
      obtain ⟨b, o, z, K, pa, pn, pc, zo, wd, qt, rfl, _, c0, c1, c2, c3, c4, c5, hx⟩ := (unhide HS j hjl).out
      have hk : ∀ {p : Addr} {x : Value}, w.cell? p = some x → wr.cell? p = some x := fun hx => (hb.cell (World.block_lt_of_cell? _ _ hx)).trans hx
      have d0 := hk c0
      have d1 := hk c1
      have d2 := hk c2
      have d3 := hk c3
      have d4 := hk c4
      have d5 := hk c5
      obtain ⟨W4, hW4⟩ : ∃ W4, W4 = wr.alloc (.cells #[.string z, .int .u8 ((K : Nat) : Int), .slice pa pn pc, .string zo, .int .i64 wd, .int .i64 qt] 62) := ⟨_, rfl⟩
      have hb4 : Below wr.heap.size wr W4 := by rw [hW4]; exact (Below.refl _ _).alloc (Nat.le_refl _) _
      have hr4 : W4.heap[wr.heap.size]? = some (.cells #[.string z, .int .u8 ((K : Nat) : Int), .slice pa pn pc, .string zo, .int .i64 wd, .int .i64 qt] 62 (0, 0)) := by rw [hW4]; exact heap_alloc_new wr _
      obtain ⟨i0, i1, i2, i3, i4, i5⟩ := cells6 hr4
      have hb5 : Below w.heap.size w W4 := hb.trans (hb4.mono hb.size)
      have HB4 := hide hb5
      have hp := hx.parts
      have HST : Hid (StrsAt B W4 pa l[j].after) := hp.strs.kept (fun k _ hk => hb5.block k hk) (fun _ h _ => h)
      have HTM : Hid (∀ y, y ∈ l.take (j + 1) → y ∈ l.take j ∨ y = l[j]) := fun y hy => by
        rw [List.take_succ_eq_append_getElem hjl] at hy
        rcases List.mem_append.1 hy with h | h
        · exact .inl h
        · exact .inr (List.mem_singleton.1 h)
      have hsz : z.size = l[j].name.length := by rw [hp.nm]; exact str_size _
      have hso : zo.size = l[j].over.length := by rw [hp.ov]; exact str_size _
      have hpm : pn ≤ 9223372036854775807 := by have h1 := hp.le; have h2 := hp.cm; unfold maxLen at h2; omega
      have HAN := hide hp.an
      have HW4 := hide hW4
      obtain ⟨nz, hnz⟩ : ∃ k, k = l[j].name.length := ⟨_, rfl⟩
      obtain ⟨no, hno⟩ : ∃ k, k = l[j].over.length := ⟨_, rfl⟩
      rw [← hnz] at hsz
      rw [← hno] at hso
      have HNZ := hide hnz
      have HNO := hide hno
      clear c0 c1 c2 c3 c4 c5 hx hk hb hb4 hr4 hb5 hp hW4 hnz hno
      go_upto_region 4 with fail
      rw [← unhide HW4]
      clear HW4 d0 d1 d2 d3 d4 d5
      by_cases h1 : ((pn : Nat) : Int) > 40
      · go_wp2_with fail
        go_ret
        exact ⟨⟨false, rfl, fun h => by cases h⟩, unhide HB4⟩
      by_cases h2 : ((nz : Nat) : Int) > 100
      · go_wp2_with fail
        go_ret
        exact ⟨⟨false, rfl, fun h => by cases h⟩, unhide HB4⟩
      by_cases h3 : ((no : Nat) : Int) > 100
      · go_wp2_with fail
        go_ret
        exact ⟨⟨false, rfl, fun h => by cases h⟩, unhide HB4⟩
      go_wp2_with fail
      go_loopw [32] (fun k W => ∃ i : Nat, i ≤ pn ∧ k = .int .i64 ((i : Nat) : Int) ∧ (∀ s ∈ l[j].after.take i, s.length ≤ 100) ∧ W = W4) (fun k _ => pn - (intOf k).toNat)
      case atStart => exact ⟨0, by omega, rfl, fun x hx => (by simp at hx), rfl⟩
      case round =>
        obtain ⟨i, hi, rfl, hs, hw⟩ := hrel
        rw [hw]
        clear hw
        have HSS := hide hs
        clear hs
        by_cases hil : i < pn
        · have hii : ((i : Nat) : Int) < ((pn : Nat) : Int) := by omega
          have hia : i < l[j].after.length := by have := unhide HAN; omega
          obtain ⟨b5, o5, rfl, _, x0, _⟩ := unhide HST i hia
          have hsz5 := str_size l[j].after[i]
          obtain ⟨m5, hm5⟩ : ∃ k, k = (l[j].after[i]).length := ⟨_, rfl⟩
          rw [← hm5] at hsz5
          have HM5 := hide hm5
          have HTK : Hid (∀ y, y ∈ l[j].after.take (i + 1) → y ∈ l[j].after.take i ∨ y = l[j].after[i]) := fun y hy => by
            rw [List.take_succ_eq_append_getElem hia] at hy
            rcases List.mem_append.1 hy with h | h
            · exact .inl h
            · exact .inr (List.mem_singleton.1 h)
          generalize (⟨(l[j].after[i]).toArray⟩ : ByteArray) = z5 at *
          clear hm5
          by_cases h5 : ((m5 : Nat) : Int) > 100
          · go_wp2_with fail
            go_ret
            exact ⟨⟨false, rfl, fun h => by cases h⟩, unhide HB4⟩
          · have H5 : Hid (m5 ≤ 100) := by show _ ≤ _; omega
            go_wp2_with fail
            exact ⟨⟨i + 1, by omega, by go_num, fun s hs => by
              rcases unhide HTK s hs with h | rfl
              · exact unhide HSS s h
              · rw [← unhide HM5]; exact unhide H5, trivial⟩, by simp [intOf]; omega⟩
        · have e : i = pn := by omega
          have hii : ¬ ((i : Nat) : Int) < ((pn : Nat) : Int) := by omega
          have HSM : Hid (l[j].Small) := by
            show FI.Small _
            refine ⟨by have := unhide HNZ; omega, by have := unhide HNO; omega, by have := unhide HAN; omega, ?_⟩
            have h := unhide HSS
            rwa [List.take_of_length_le (by have := unhide HAN; omega)] at h
          clear e h1 h2 h3
          go_wp2_with fail
          exact ⟨⟨j + 1, by omega, by go_num, fun y hy => by
            rcases unhide HTM y hy with h | rfl
            · exact unhide HA y h
            · exact unhide HSM, unhide HB4⟩, by simp [intOf]; omega⟩
    · have e : j = n := by omega
      have hji : ¬ ((j : Nat) : Int) < ((n : Nat) : Int) := by omega
      have HF : Hid (∀ x ∈ l, x.Small) := by
        show ∀ x ∈ l, x.Small
        have h := unhide HA
        rwa [List.take_of_length_le (by have := unhide HN; omega)] at h
      clear e hb hlt
      go_wp2_with fail
      go_ret
      exact ⟨⟨_, rfl, fun h => ⟨by have := of_decide_eq_true h; have := unhide HN; omega, unhide HF⟩⟩, unhide HB⟩
end Go.Proofs.YtdlbpbglidhlfaaGreatDoor

namespace Go.Proofs.YtdlbpbglidhlfaaGreatDoor
open Go.RowKit

/-- What few tells of a value: below a million it is the number of its parts, and it is no deeper than that. -/
def Fewer (v : VD) (d : Nat) (R : Nat) : Prop := R ≤ (d + 1) * 1000000 ∧ (R < 1000000 → v.deep ≤ d ∧ v.parts = R)

set_option maxRecDepth 100000 in
set_option maxHeartbeats 2000000 in
theorem vFew_step (d : Nat) (hd20 : d ≤ 20) (HIH : Hid (∀ d', d = d' + 1 → ∀ (v : VD) (B : Nat → Prop) (u : Value) (w : World), v.At B w u → Calls Tryz.prog 38 #[u, .int .i64 ((d' : Nat) : Int)] w fun e w' => (∃ R : Nat, e = .returned (.int .i64 ((R : Nat) : Int)) ∧ Fewer v d' R) ∧ Below w.heap.size w w')) (v : VD) (B : Nat → Prop) (u : Value) (w : World) (hA : v.At B w u) : Calls Tryz.prog 38 #[u, .int .i64 ((d : Nat) : Int)] w fun e w' => (∃ R : Nat, e = .returned (.int .i64 ((R : Nat) : Int)) ∧ Fewer v d R) ∧ Below w.heap.size w w' := by
  obtain ⟨a, c, rfl, hlc, hbox⟩ := hA.box
  have HBX := hide (hbox 24)
  have HB1 : Hid (Below w.heap.size w (w.alloc (.cells #[.int .u8 ((v.k : Nat) : Int), .int .i64 v.n, .string ⟨v.s.toArray⟩, .slice a v.l.length c] 24))) := (Below.refl _ w).alloc (Nat.le_refl _) _
  clear hA hbox
  obtain ⟨n, hn⟩ : ∃ n, n = v.l.length := ⟨_, rfl⟩
  have HN := hide hn
  have HCM : Hid (n ≤ maxLen) := by rw [hn]; exact Nat.le_trans (unhide HBX).lc (unhide HBX).cm
  rw [← hn] at hlc ⊢ HBX HB1
  clear hn
  generalize (⟨v.s.toArray⟩ : ByteArray) = z at *
  by_cases hd0 : d = 0
  · have hdb : (((d : Nat) : Int) == 0) = true := by rw [hd0]; rfl
    go_enter Tryz.func38, Tryz.ntmps38
    go_wp2
    go_ret
    exact ⟨⟨1000000, rfl, by rw [hd0]; exact Nat.le_refl _, fun h => absurd h (Nat.lt_irrefl _)⟩, unhide HB1⟩
  · have hdb : (((d : Nat) : Int) == 0) = false := by rw [beq_eq_false_iff_ne]; omega
    obtain ⟨d', hd'⟩ : ∃ d', d = d' + 1 := ⟨d - 1, by omega⟩
    have HD := hide hd'
    have hdi : ((d : Nat) : Int) - 1 = ((d' : Nat) : Int) := by omega
    have hdn : d' ≤ 20 := by omega
    clear hd' hd0
    go_enter Tryz.func38, Tryz.ntmps38
    go_wp2
    generalize hw1 : World.alloc w _ = w1 at HBX HB1 ⊢
    clear hw1
    go_loopw [5, 13] (fun s k W => ∃ j S : Nat, j ≤ n ∧ S ≤ 1000000 ∧ k = .int .i64 ((j : Nat) : Int) ∧ s = .int .i64 ((S : Nat) : Int) ∧ S = VD.partsL (v.l.take j) + 1 ∧ (∀ x ∈ v.l.take j, x.deep ≤ d') ∧ Below w1.heap.size w1 W) (fun _ k _ => n - (intOf k).toNat)
    case atStart => exact ⟨0, 1, by omega, by omega, rfl, rfl, by simp [VD.partsL], fun x hx => by simp at hx, Below.refl _ _⟩
    case round =>
      obtain ⟨j, S, hj, hS6, rfl, rfl, hS, hDe, hb⟩ := hrel
      have HB := hide hb
      have HSD := hide hS
      have HDE := hide hDe
      have hbx := (unhide HBX).later hb
      have c3 := hbx.c3
      rw [← unhide HN] at c3
      have HEL := hide hbx.el
      have hj6 : j ≤ 1000000 := by
        have h1 := VD.partsL_length (v.l.take j)
        rw [List.length_take, ← unhide HN] at h1
        omega
      clear hb hbx hS hDe
      by_cases hlt : j < n
      · have hji : ((j : Nat) : Int) < ((n : Nat) : Int) := by omega
        have hjl : j < v.l.length := by have := unhide HN; omega
        obtain ⟨b, o, e0, e1, e2, e3, rfl, _, d0, d1, d2, d3, he⟩ := unhide HEL j hjl
        have HT : Hid (VD.partsL (v.l.take (j + 1)) = VD.partsL (v.l.take j) + (v.l[j]).parts) := by
          show _ = _
          rw [List.take_succ_eq_append_getElem hjl, VD.partsL_append]
          simp [VD.partsL]
        have HTD : Hid ((v.l[j]).deep ≤ d' → ∀ x ∈ v.l.take (j + 1), x.deep ≤ d') := fun h x hx => by
          rw [List.take_succ_eq_append_getElem hjl] at hx
          rcases List.mem_append.1 hx with h1 | h1
          · exact unhide HDE x h1
          · rw [List.mem_singleton.1 h1]; exact h
        have he2 := he
        rw [VD.at_iff] at he2
        obtain ⟨xa, xc, hu, _⟩ := he2
        simp only [Value.agg.injEq] at hu
        replace hu := congrArg Array.toList hu
        simp only [List.cons.injEq, and_true] at hu
        obtain ⟨g0, g1, g2, g3⟩ := hu
        obtain ⟨xk, hxk⟩ : ∃ xk, xk = (v.l[j]).k := ⟨_, rfl⟩
        obtain ⟨xn, hxn⟩ : ∃ xn, xn = (v.l[j]).n := ⟨_, rfl⟩
        obtain ⟨xz, hxz⟩ : ∃ xz : ByteArray, xz = ⟨(v.l[j]).s.toArray⟩ := ⟨_, rfl⟩
        obtain ⟨xl, hxl⟩ : ∃ xl, xl = (v.l[j]).l.length := ⟨_, rfl⟩
        rw [← hxk] at g0
        rw [← hxn] at g1
        rw [← hxz] at g2
        rw [← hxl] at g3
        subst g0 g1 g2 g3
        obtain ⟨W2, hW2⟩ : ∃ W2, W2 = wr.alloc (.cells #[.int .u8 ((xk : Nat) : Int), .int .i64 xn, .string xz, .slice xa xl xc] 24) := ⟨_, rfl⟩
        have hb2 : Below wr.heap.size wr W2 := by rw [hW2]; exact (Below.refl _ _).alloc (Nat.le_refl _) _
        have HBW2 := hide ((unhide HB).trans (hb2.mono (unhide HB).size))
        have HC := hide (unhide HIH d' (unhide HD) (v.l[j]) B _ W2 (he.later hb2))
        have hg7 : W2.heap[wr.heap.size]? = some (.cells #[.int .u8 ((xk : Nat) : Int), .int .i64 xn, .string xz, .slice xa xl xc] 24 (0, 0)) := by rw [hW2]; exact heap_alloc_new wr _
        obtain ⟨⟨i0, i1, i2, i3⟩, _⟩ := cells4 hg7
        have HW2 := hide hW2
        clear he HEL hxk hxn hxz hxl hb2 hg7 hW2
        go_upto_region 7 with fail
        rw [← unhide HW2]
        clear HW2
        go_wp2_with fail
        refine (unhide HC).mono ?_
        rintro e w2 ⟨⟨R, rfl, hR1, hR2⟩, hb2⟩
        have hRb : R ≤ 21000000 := by omega
        have HR2 := hide hR2
        have HB2 := hide ((unhide HBW2).trans (hb2.mono (unhide HBW2).size))
        obtain ⟨T, hT⟩ : ∃ T, T = S + R := ⟨_, rfl⟩
        have hTi : ((S : Nat) : Int) + ((R : Nat) : Int) = ((T : Nat) : Int) := by omega
        have hTb : T ≤ 22000000 := by omega
        have HTT := hide hT
        have HR1 := hide hR1
        clear hb2 hR2 hT hR1
        by_cases hbig : T > 1000000
        · have HFB := hide ((unhide HB1).trans ((unhide HB2).mono (unhide HB1).size))
          go_wp2_with fail
          go_ret
          exact ⟨⟨T, rfl, by have := unhide HD; have := unhide HTT; have := unhide HR1; omega, fun h => by omega⟩, unhide HFB⟩
        · have hp := unhide HR2 (by
            have h1 := unhide HTT
            have h2 := unhide HSD
            omega)
          have HP1 := hide hp.1
          have HP2 := hide hp.2
          clear hp
          go_wp2_with fail
          exact ⟨⟨j + 1, T, by omega, by omega, by go_num, rfl, by rw [unhide HT, unhide HP2]; have := unhide HSD; have := unhide HTT; omega, unhide HTD (unhide HP1), unhide HB2⟩, by simp [intOf]; omega⟩
      · have e : j = n := by omega
        have hji : ¬ ((j : Nat) : Int) < ((n : Nat) : Int) := by omega
        have HFB := hide ((unhide HB1).trans ((unhide HB).mono (unhide HB1).size))
        have HFE : Hid (Fewer v d S) := by
          refine ⟨by omega, fun _ => ?_⟩
          have h1 := unhide HSD
          have h2 := unhide HDE
          rw [List.take_of_length_le (by have := unhide HN; omega)] at h1 h2
          have h3 := VD.deepL_le h2
          have h4 := unhide HD
          rw [VD.deep_mk, VD.parts_mk]
          exact ⟨by omega, by omega⟩
        clear e
        go_wp2
        go_ret
        exact ⟨⟨S, rfl, unhide HFE⟩, unhide HFB⟩

theorem vFew_any (d : Nat) : d ≤ 20 → ∀ (v : VD) (B : Nat → Prop) (u : Value) (w : World), v.At B w u → Calls Tryz.prog 38 #[u, .int .i64 ((d : Nat) : Int)] w fun e w' => (∃ R : Nat, e = .returned (.int .i64 ((R : Nat) : Int)) ∧ Fewer v d R) ∧ Below w.heap.size w w' := by
  induction d with
  | zero => exact fun h v B u w hA => vFew_step 0 h (fun d' e => by omega) v B u w hA
  | succ d ih =>
    intro h v B u w hA
    refine vFew_step (d + 1) h (fun d' e => ?_) v B u w hA
    obtain rfl : d = d' := by omega
    exact ih (by omega)
end Go.Proofs.YtdlbpbglidhlfaaGreatDoor

namespace Go.Proofs.YtdlbpbglidhlfaaGreatDoor
open Go.RowKit

set_option maxRecDepth 100000 in
set_option maxHeartbeats 2000000 in
/-- A value of which Few says true is light. -/
theorem vFewTop_any (v : VD) (B : Nat → Prop) (u : Value) (w : World) (hA : v.At B w u) : Calls Tryz.prog 17 #[u] w fun e w' => (∃ b : Bool, e = .returned (.bool b) ∧ (b = true → v.deep ≤ 20 ∧ v.parts ≤ 600)) ∧ Below w.heap.size w w' := by
  obtain ⟨a, c, rfl, hlc, hbox⟩ := hA.box
  have HBX := hide (hbox 24)
  have HB1 : Hid (Below w.heap.size w (w.alloc (.cells #[.int .u8 ((v.k : Nat) : Int), .int .i64 v.n, .string ⟨v.s.toArray⟩, .slice a v.l.length c] 24))) := (Below.refl _ w).alloc (Nat.le_refl _) _
  have HC := hide (vFew_any 20 (Nat.le_refl _) v B _ _ (hA.later (unhide HB1)))
  clear hA hbox
  obtain ⟨n, hn⟩ : ∃ n, n = v.l.length := ⟨_, rfl⟩
  have HN := hide hn
  rw [← hn] at hlc ⊢ HBX HB1 HC
  clear hn
  have hbx := unhide HBX
  have c0 := hbx.c0
  have c1 := hbx.c1
  have c2 := hbx.c2
  have c3 := hbx.c3
  rw [← unhide HN] at c3
  clear hbx
  generalize (⟨v.s.toArray⟩ : ByteArray) = z at *
  generalize v.k = k at *
  generalize v.n = x at *
  go_enter Tryz.func17, Tryz.ntmps17
  go_upto_region 1 with fail
  generalize hw1 : World.alloc w _ = w1 at HBX HB1 HC c0 c1 c2 c3 ⊢
  clear hw1
  go_wp2_with fail
  refine (unhide HC).mono ?_
  rintro e w2 ⟨⟨R, rfl, hR1, hR2⟩, hb2⟩
  have HFB := hide ((unhide HB1).trans (hb2.mono (unhide HB1).size))
  have HR2 := hide hR2
  clear hb2 hR1 hR2
  by_cases h6 : ((R : Nat) : Int) ≤ 600
  · have h6d : decide (((R : Nat) : Int) ≤ 600) = true := decide_eq_true h6
    have h6n : decide (R ≤ 600) = true := decide_eq_true (by omega)
    have HR6 : Hid (R ≤ 600) := by show _ ≤ _; omega
    clear h6
    go_wp2_with fail
    go_ret
    refine ⟨⟨true, rfl, fun _ => ?_⟩, unhide HFB⟩
    have := unhide HR6
    have h := unhide HR2 (by omega)
    exact ⟨h.1, by rw [h.2]; exact this⟩
  · have h6d : decide (((R : Nat) : Int) ≤ 600) = false := decide_eq_false h6
    have h6n : decide (R ≤ 600) = false := decide_eq_false (by omega)
    clear h6
    go_wp2_with fail
    go_ret
    exact ⟨⟨false, rfl, fun h => by cases h⟩, unhide HFB⟩
end Go.Proofs.YtdlbpbglidhlfaaGreatDoor

namespace Go.Proofs.YtdlbpbglidhlfaaGreatDoor
open Go.RowKit

/-- What Few asks. -/
def FewO (o : OD) : Prop := (o.value.deep ≤ 20 ∧ o.value.parts ≤ 600) ∧ FewF o.frag ∧ o.id.length ≤ 500
theorem FewO.lt {o : OD} (h : FewO o) : o.Lt := by
  have := h.1
  unfold OD.Lt
  omega
def FewOM (o : OD) (w : World) (e : Ending) (w' : World) : Prop := (∃ b : Bool, e = .returned (.bool b) ∧ (b = true → FewO o)) ∧ Below w.heap.size w w'
set_option maxRecDepth 100000 in
set_option maxHeartbeats 2000000 in
theorem oFew_any (o : OD) (B : Nat → Prop) (u : Value) (w : World) (h : o.At B w u) : Calls Tryz.prog 4 #[u] w (FewOM o w) := by
  obtain ⟨L, s, t, K, N, z, a, m, c, fa, fn, fc, q, rfl, hp⟩ := h.form
  unfold OD.form9
  obtain ⟨W1, hW1⟩ : ∃ W1, W1 = w.alloc (.cells #[.int .u8 ((L : Nat) : Int), .string s, .int .i64 t, .int .u8 ((K : Nat) : Int), .int .i64 N, .string z, .slice a m c, .slice fa fn fc, .int .i64 q] 27) := ⟨_, rfl⟩
  have hb1 : Below w.heap.size w W1 := by rw [hW1]; exact (Below.refl _ _).alloc (Nat.le_refl _) _
  have hg1 : W1.heap[w.heap.size]? = some (.cells #[.int .u8 ((L : Nat) : Int), .string s, .int .i64 t, .int .u8 ((K : Nat) : Int), .int .i64 N, .string z, .slice a m c, .slice fa fn fc, .int .i64 q] 27 (0, 0)) := by rw [hW1]; exact heap_alloc_new _ _
  have HKS : Hid (∀ X, Below W1.heap.size W1 X → X.cell? ⟨w.heap.size, 0, none⟩ = some (.int .u8 ((L : Nat) : Int)) ∧ X.cell? ⟨w.heap.size, 1, none⟩ = some (.string s) ∧ X.cell? ⟨w.heap.size, 2, none⟩ = some (.int .i64 t) ∧ X.cell? ⟨w.heap.size, 3, none⟩ = some (.int .u8 ((K : Nat) : Int)) ∧ X.cell? ⟨w.heap.size, 4, none⟩ = some (.int .i64 N) ∧ X.cell? ⟨w.heap.size, 5, none⟩ = some (.string z) ∧ X.cell? ⟨w.heap.size, 6, none⟩ = some (.slice a m c) ∧ X.cell? ⟨w.heap.size, 7, none⟩ = some (.slice fa fn fc) ∧ X.cell? ⟨w.heap.size, 8, none⟩ = some (.int .i64 q)) := fun X hX => cells9 ((hX.block _ (Array.getElem?_eq_some_iff.1 hg1).1).trans hg1)
  have HVF := hide (vFewTop_any o.value B _ W1 (hp.later hb1).value)
  have HFF : Hid (∀ X, Below W1.heap.size W1 X → Calls Tryz.prog 18 #[.slice fa fn fc] X (FewM o.frag X)) := fun X hX => few_any o.frag B _ X ((hp.later hb1).frag.later hX)
  have hsz : s.size = o.id.length := by rw [hp.id]; exact str_size _
  obtain ⟨n, hn⟩ : ∃ n, n = o.id.length := ⟨_, rfl⟩
  rw [← hn] at hsz
  have HN := hide hn
  have HB1 := hide hb1
  obtain ⟨c0, c1, c2, c3, c4, c5, c6, c7, c8⟩ := cells9 hg1
  clear hp hg1 hb1 h hn
  go_enter Tryz.func4, Tryz.ntmps4
  go_upto_region 1 with fail
  rw [← hW1]
  clear hW1
  go_wp2_with fail
  refine (unhide HVF).mono ?_
  rintro e w2 ⟨⟨f1, rfl, hf1⟩, hb2⟩
  have HB2 := hide hb2
  have HF1 := hide hf1
  obtain ⟨d0, d1, d2, d3, d4, d5, d6, d7, d8⟩ := unhide HKS _ hb2
  clear hb2 hf1 c0 c1 c2 c3 c4 c5 c6 c7 c8
  cases f1 with
  | false =>
    go_wp2_with fail
    go_ret
    exact ⟨⟨false, rfl, fun h => by cases h⟩, (unhide HB1).trans ((unhide HB2).mono (unhide HB1).size)⟩
  | true =>
  go_wp2_with fail
  refine (unhide HFF _ (unhide HB2)).mono ?_
  rintro e w3 ⟨⟨f2, rfl, hf2⟩, hb3⟩
  have HB3 := hide ((unhide HB2).trans (hb3.mono (unhide HB2).size))
  have HF2 := hide hf2
  clear hb3 hf2 d0 d1 d2 d3 d4 d5 d6 d7 d8
  obtain ⟨d0, d1, d2, d3, d4, d5, d6, d7, d8⟩ := unhide HKS _ (unhide HB3)
  cases f2 with
  | false =>
    go_wp2_with fail
    go_ret
    exact ⟨⟨false, rfl, fun h => by cases h⟩, (unhide HB1).trans ((unhide HB3).mono (unhide HB1).size)⟩
  | true =>
  by_cases h5 : n ≤ 500
  · have g5 : ((n : Nat) : Int) ≤ 500 := by omega
    have g5d : decide (((n : Nat) : Int) ≤ 500) = true := decide_eq_true g5
    have HFE : Hid (FewO o) := ⟨unhide HF1 trivial, unhide HF2 rfl, by have := unhide HN; omega⟩
    clear h5
    go_wp2_with fail
    go_ret
    exact ⟨⟨true, rfl, fun _ => unhide HFE⟩, (unhide HB1).trans ((unhide HB3).mono (unhide HB1).size)⟩
  · have g5 : ¬ ((n : Nat) : Int) ≤ 500 := by omega
    have g5d : decide (((n : Nat) : Int) ≤ 500) = false := decide_eq_false g5
    clear h5
    go_wp2_with fail
    go_ret
    exact ⟨⟨false, rfl, fun h => by cases h⟩, (unhide HB1).trans ((unhide HB3).mono (unhide HB1).size)⟩

theorem OD.At.good {B : Nat → Prop} {W : World} {o : OD} {u : Value} (h : o.At B W u) (hr : o.right = true) : o.Good := by
  obtain ⟨K, N, z, a, m, c, fa, fn, fc, _, h2, h3, _⟩ := h
  exact ⟨hr, h2.tk, h3.fits⟩
/-- What Bytes tells of an operation of a right form. -/
theorem oBytesM_right {o : OD} {w : World} {e : Ending} {w' : World} (h : OBytesM o w e w') (hr : o.right = true) : ∃ (pa : Option Addr) (pn pc : Nat), e = .returned (.tuple #[.slice pa pn pc, .int .i64 0]) ∧ Bytes w' (.slice pa pn pc) o.bytes ∧ Below w.heap.size w w' ∧ Own w (.slice pa pn pc) o.bytes w' := by
  obtain ⟨pa, pn, pc, er, rs, rfl, hB, hb, ⟨_, rfl, rfl, hO⟩ | ⟨hf, _⟩⟩ := h
  · exact ⟨pa, pn, pc, rfl, hB, hb, hO⟩
  · rw [hr] at hf; cases hf
theorem oBytesM_wrong {o : OD} {w : World} {e : Ending} {w' : World} (h : OBytesM o w e w') (hr : o.right = false) : ∃ (pa : Option Addr) (pc : Nat), e = .returned (.tuple #[.slice pa 0 pc, .int .i64 2]) ∧ Below w.heap.size w w' := by
  obtain ⟨pa, pn, pc, er, rs, rfl, hB, hb, ⟨hf, _⟩ | ⟨_, rfl, rfl, rfl⟩⟩ := h
  · rw [hr] at hf; cases hf
  · exact ⟨pa, pc, rfl, hb⟩
/-- What Parse tells of an operation's bytes. -/
theorem oParseM_ok {o : OD} {w : World} {e : Ending} {W : World} (h : OParseM w o.bytes e W) (hg : o.Good) : ∃ u, e = .returned (.tuple #[u, .int .i64 0]) ∧ o.At (fun k => w.heap.size ≤ k) W u ∧ Below w.heap.size w W := by
  obtain ⟨p, u, er, rfl, hA, _, hb, ⟨rfl, hr, he⟩ | ⟨_, hN, _⟩⟩ := h
  · obtain rfl := OD.bytes_inj hg.rt hr he
    exact ⟨u, rfl, hA, hb⟩
  · exact absurd rfl (hN o hg)
theorem oParseM_none {bs : List UInt8} {w : World} {e : Ending} {W : World} (h : OParseM w bs e W) (hN : NoOp bs) : ∃ u, e = .returned (.tuple #[u, .int .i64 30]) ∧ zeroO.At (fun k => w.heap.size ≤ k) W u ∧ Below w.heap.size w W := by
  obtain ⟨p, u, er, rfl, hA, _, hb, ⟨rfl, hr, he⟩ | ⟨rfl, _, rfl⟩⟩ := h
  · exact absurd he (hN p (hA.good hr))
  · exact ⟨u, rfl, hA, hb⟩

set_option maxRecDepth 100000 in
set_option maxHeartbeats 2000000 in
theorem says_any (o : OD) (B : Nat → Prop) (u : Value) (a : Option Addr) (n c : Nat) (w : World) (h : o.At B w u) (hr : o.right = true) (hl : o.Lt) (hT : OTab w) (hB : Bytes w (.slice a n c) o.bytes) (hn : n ≤ 1048576) : Calls Tryz.prog 19 #[u, .slice a n c] w fun e w' => e = .returned (.bool true) ∧ Below w.heap.size w w' := by
  have hgd := h.good hr
  have HAX : Hid (∀ X, Below w.heap.size w X → o.At B X u ∧ OTab X ∧ Bytes X (.slice a n c) o.bytes) := fun X hX => ⟨h.later hX, hT.later hX, hB.laterW hX⟩
  obtain ⟨L, s, t, K, N, z, va, m, cc, fa, fn, fc, q, rfl, hp⟩ := h.form
  unfold OD.form9 at *
  obtain ⟨W1, hW1⟩ : ∃ W1, W1 = w.alloc (.cells #[.int .u8 ((L : Nat) : Int), .string s, .int .i64 t, .int .u8 ((K : Nat) : Int), .int .i64 N, .string z, .slice va m cc, .slice fa fn fc, .int .i64 q] 27) := ⟨_, rfl⟩
  have hb1 : Below w.heap.size w W1 := by rw [hW1]; exact (Below.refl _ _).alloc (Nat.le_refl _) _
  have hg1 : W1.heap[w.heap.size]? = some (.cells #[.int .u8 ((L : Nat) : Int), .string s, .int .i64 t, .int .u8 ((K : Nat) : Int), .int .i64 N, .string z, .slice va m cc, .slice fa fn fc, .int .i64 q] 27 (0, 0)) := by rw [hW1]; exact heap_alloc_new _ _
  have HKS : Hid (∀ X, Below W1.heap.size W1 X → X.cell? ⟨w.heap.size, 0, none⟩ = some (.int .u8 ((L : Nat) : Int)) ∧ X.cell? ⟨w.heap.size, 1, none⟩ = some (.string s) ∧ X.cell? ⟨w.heap.size, 2, none⟩ = some (.int .i64 t) ∧ X.cell? ⟨w.heap.size, 3, none⟩ = some (.int .u8 ((K : Nat) : Int)) ∧ X.cell? ⟨w.heap.size, 4, none⟩ = some (.int .i64 N) ∧ X.cell? ⟨w.heap.size, 5, none⟩ = some (.string z) ∧ X.cell? ⟨w.heap.size, 6, none⟩ = some (.slice va m cc) ∧ X.cell? ⟨w.heap.size, 7, none⟩ = some (.slice fa fn fc) ∧ X.cell? ⟨w.heap.size, 8, none⟩ = some (.int .i64 q)) := fun X hX => cells9 ((hX.block _ (Array.getElem?_eq_some_iff.1 hg1).1).trans hg1)
  have HB1 := hide hb1
  have HRT := hide hr
  have HLT := hide hl
  have HGD := hide hgd
  have HN := hide hn
  obtain ⟨c0, c1, c2, c3, c4, c5, c6, c7, c8⟩ := cells9 hg1
  clear hp hg1 hb1 h hr hl hT hB hn hgd
  go_enter Tryz.func19, Tryz.ntmps19
  go_upto_region 1 with fail
  rw [← hW1]
  clear hW1
  go_wp2_with fail
  refine (oBytes_any o B _ W1 (unhide HAX _ (unhide HB1)).1 (unhide HLT) (unhide HAX _ (unhide HB1)).2.1).mono ?_
  rintro e w2 h2
  obtain ⟨pa, pn, pc, rfl, hP, hb2, -⟩ := oBytesM_right h2 (unhide HRT)
  have HP := hide hP
  have HB2 := hide hb2
  have HW2 := hide ((unhide HB1).trans (hb2.mono (unhide HB1).size))
  clear h2 hP hb2 c0 c1 c2 c3 c4 c5 c6 c7 c8
  go_wp2_with fail
  refine (oParse_any a n c o.bytes w2 (unhide HAX _ (unhide HW2)).2.2 (unhide HN) (unhide HAX _ (unhide HW2)).2.1).mono ?_
  rintro e w3 h3
  obtain ⟨u3, rfl, hA3, hb3⟩ := oParseM_ok h3 (unhide HGD)
  obtain ⟨L', s', t', K', N', z', va', m', cc', fa', fn', fc', q', rfl, hp3⟩ := hA3.form
  unfold OD.form9 at *
  obtain ⟨w4, hw4⟩ : ∃ w4, w4 = w3.alloc (.cells #[.int .u8 ((L' : Nat) : Int), .string s', .int .i64 t', .int .u8 ((K' : Nat) : Int), .int .i64 N', .string z', .slice va' m' cc', .slice fa' fn' fc', .int .i64 q'] 27) := ⟨_, rfl⟩
  have hb4 : Below w3.heap.size w3 w4 := by rw [hw4]; exact (Below.refl _ _).alloc (Nat.le_refl _) _
  have hr4 : w4.heap[w3.heap.size]? = some (.cells #[.int .u8 ((L' : Nat) : Int), .string s', .int .i64 t', .int .u8 ((K' : Nat) : Int), .int .i64 N', .string z', .slice va' m' cc', .slice fa' fn' fc', .int .i64 q'] 27 (0, 0)) := by rw [hw4]; exact heap_alloc_new _ _
  have hb34 : Below w2.heap.size w2 w4 := hb3.trans (hb4.mono hb3.size)
  have HB4 := hide ((unhide HB2).trans (hb34.mono (unhide HB2).size))
  have HW4b := hide ((unhide HW2).trans (hb34.mono (unhide HW2).size))
  have HP4 := hide ((unhide HP).laterW hb34)
  have HA4 := hide (hA3.later hb4)
  obtain ⟨d0, d1, d2, d3, d4, d5, d6, d7, d8⟩ := unhide HKS _ (unhide HB4)
  obtain ⟨k0, k1, k2, k3, k4, k5, k6, k7, k8⟩ := cells9 hr4
  have HW4 := hide hw4
  clear h3 hA3 hb3 hp3 hb4 hr4 hb34 hw4 HP HB2
  go_upto_region 3 with fail
  rw [← unhide HW4]
  clear HW4
  go_wp2_with fail
  refine (wSame_true _ _ o.bytes _ (unhide HP4) (unhide HAX _ (unhide HW4b)).2.2).mono ?_
  rintro e w6 ⟨rfl, hw⟩
  rw [hw]
  clear hw w6
  go_wp2_with fail
  refine (oSame_any o o _ _ _ _ w4 (unhide HA4) (unhide HAX _ (unhide HW4b)).1 (unhide HLT)).mono ?_
  rintro e w7 ⟨rfl, hb7⟩
  rw [OD.same_self]
  have HB7 := hide ((unhide HW4b).trans (hb7.mono (unhide HW4b).size))
  clear hb7
  go_wp2_with fail
  go_ret
  exact ⟨rfl, unhide HB7⟩

theorem bytes_blockO {w : World} {g n : Nat} {t : TypeId} {bs : List UInt8} {fz : Nat × Nat} (h : w.heap[g]? = some (.cells (bs.map bv).toArray t fz)) (hn : bs.length = n) (hm : n ≤ maxLen) : Bytes w (.slice (some ⟨g, 0, none⟩) n n) bs := by
  subst hn
  refine .inr ⟨⟨g, 0, none⟩, bs.length, rfl, Nat.le_refl _, hm, fun j x hx => ?_⟩
  rw [Addr.add_mid, Nat.zero_add, cell_of_row _ _ _ _ _ _ h]
  simpa using hx
/-- An operation with neither value nor items. -/
def exO (w : Nat) (id : List UInt8) (t q : Int) : OD := ⟨w, id, t, zeroD, [], q⟩
theorem exO_lt (w : Nat) (id : List UInt8) (t q : Int) : (exO w id t q).Lt := by show zeroD.parts ≤ 1000000 ∧ zeroD.deep ≤ 1000; decide
theorem exO_at (B : Nat → Prop) (W : World) {w : Nat} {x : Int} (hx : x = ((w : Nat) : Int)) (hw : w < 256) {id : List UInt8} (hi : id.length ≤ maxLen) {t q : Int} (ht : InR t) (hq : InR q) : (exO w id t q).At B W (.agg #[.int .u8 x, .string ⟨id.toArray⟩, .int .i64 t, .int .u8 0, .int .i64 0, .string ⟨#[]⟩, .slice none 0 0, .slice none 0 0, .int .i64 q]) := by
  rw [hx]
  exact OD.Parts.at ⟨rfl, rfl, rfl, rfl, ⟨hw, hi, ht, hq⟩, zero_at _ _, FragAt.nil _ _⟩
theorem exn (n : Int) (x : UInt8) (h : zz n < 128) (hx : UInt8.ofNat (zz n) = x) : numB n = [x] := by show grp _ = _; rw [grp_low h, hx]

theorem exR5 : (exO 5 [120] 0 0).right = true := by decide +kernel
theorem exB5 : (exO 5 [120] 0 0).bytes = [10, 2, 120] := by
  rw [OD.bytes_5 rfl]; show numB 5 ++ (numB 1 ++ [120]) = _
  rw [exn 5 10 (by decide) (by decide), exn 1 2 (by decide) (by decide)]
  rfl

theorem exR2 : (exO 2 [120] 0 0).right = true := by decide +kernel
theorem exB2 : (exO 2 [120] 0 0).bytes = [4, 2, 120] := by
  rw [OD.bytes_2 rfl]; show numB 2 ++ (numB 1 ++ [120]) = _
  rw [exn 2 4 (by decide) (by decide), exn 1 2 (by decide) (by decide)]
  rfl

theorem exR4 : (exO 4 [120] 1 0).right = true := by decide +kernel
theorem exB4 : (exO 4 [120] 1 0).bytes = [8, 2, 120, 2] := by
  rw [OD.bytes_4 rfl]; show numB 4 ++ ((numB 1 ++ [120]) ++ numB 1) = _
  rw [exn 4 8 (by decide) (by decide), exn 1 2 (by decide) (by decide)]
  rfl

theorem exR1 : (exO 1 [] 0 3).right = true := by decide +kernel
theorem exB1 : (exO 1 [] 0 3).bytes = [2, 0, 6] := by
  rw [OD.bytes_1 rfl]; show numB 1 ++ ((numB 0 ++ []) ++ numB 3) = _
  rw [exn 1 2 (by decide) (by decide), exn 0 0 (by decide) (by decide), exn 3 6 (by decide) (by decide)]
  rfl

theorem exR3 : (exO 3 [120] 1 0).right = true := by decide +kernel
theorem exB3 : (exO 3 [120] 1 0).bytes = [6, 2, 120, 2, 0, 0, 0] := by
  rw [OD.bytes_3 rfl]; show numB 3 ++ ((numB 1 ++ [120]) ++ (numB 1 ++ ((numB 0 ++ numB 0) ++ (numB 0 ++ [])))) = _
  rw [exn 3 6 (by decide) (by decide), exn 1 2 (by decide) (by decide), exn 0 0 (by decide) (by decide)]
  rfl

set_option maxRecDepth 100000 in
set_option maxHeartbeats 2000000 in
theorem oAwake_any (w : World) (hT : OTab w) : Calls Tryz.prog 5 #[] w fun e w' => e = .returned (.bool true) ∧ Below w.heap.size w w' := by
  have HTB : Hid (∀ X, Below w.heap.size w X → OTab X) := fun X hX => hT.later hX
  clear hT
  go_enter Tryz.func5, Tryz.ntmps5
  go_wp2_with fail
  refine (oBytes_any (exO 5 [120] 1 0) (fun _ => True) _ w (exO_at _ _ rfl (by omega) (by unfold maxLen; simp) (by unfold InR; omega) (by unfold InR; omega)) (exO_lt _ _ _ _) (unhide HTB _ (Below.refl _ _))).mono ?_
  rintro e w0 h0
  obtain ⟨pa, pc, rfl, hb0⟩ := oBytesM_wrong h0 (by decide +kernel)
  have HBw0 := hide hb0
  clear h0 hb0
  go_wp2_with fail
  obtain ⟨w1, hw1⟩ : ∃ w1, w1 = w0.alloc (.cells #[.int .u8 10, .int .u8 2, .int .u8 120] 5) := ⟨_, rfl⟩
  rw [← hw1]
  have hbw1 : Below w0.heap.size w0 w1 := by rw [hw1]; exact (Below.refl _ _).alloc (Nat.le_refl _) _
  have hgw1 : Bytes w1 (.slice (some ⟨w0.heap.size, 0, none⟩) 3 3) (exO 5 [120] 0 0).bytes := by rw [hw1, exB5]; exact bytes_blockO (heap_alloc_new _ _) rfl (by unfold maxLen; omega)
  have HBw1 := hide ((unhide HBw0).trans (hbw1.mono (unhide HBw0).size))
  have HGw1 := hide hgw1
  clear hw1 hbw1 hgw1 HBw0
  refine (says_any (exO 5 [120] 0 0) (fun _ => True) _ _ _ _ w1 (exO_at _ _ rfl (by omega) (by unfold maxLen; simp) (by unfold InR; omega) (by unfold InR; omega)) exR5 (exO_lt _ _ _ _) (unhide HTB _ (unhide HBw1)) (unhide HGw1) (by omega)).mono ?_
  rintro e w2 ⟨rfl, hbw2⟩
  have HBw2 := hide ((unhide HBw1).trans (hbw2.mono (unhide HBw1).size))
  clear hbw2 HBw1 HGw1
  go_wp2_with fail
  obtain ⟨w3, hw3⟩ : ∃ w3, w3 = w2.alloc (.cells #[.int .u8 4, .int .u8 2, .int .u8 120] 5) := ⟨_, rfl⟩
  rw [← hw3]
  have hbw3 : Below w2.heap.size w2 w3 := by rw [hw3]; exact (Below.refl _ _).alloc (Nat.le_refl _) _
  have hgw3 : Bytes w3 (.slice (some ⟨w2.heap.size, 0, none⟩) 3 3) (exO 2 [120] 0 0).bytes := by rw [hw3, exB2]; exact bytes_blockO (heap_alloc_new _ _) rfl (by unfold maxLen; omega)
  have HBw3 := hide ((unhide HBw2).trans (hbw3.mono (unhide HBw2).size))
  have HGw3 := hide hgw3
  clear hw3 hbw3 hgw3 HBw2
  refine (says_any (exO 2 [120] 0 0) (fun _ => True) _ _ _ _ w3 (exO_at _ _ rfl (by omega) (by unfold maxLen; simp) (by unfold InR; omega) (by unfold InR; omega)) exR2 (exO_lt _ _ _ _) (unhide HTB _ (unhide HBw3)) (unhide HGw3) (by omega)).mono ?_
  rintro e w4 ⟨rfl, hbw4⟩
  have HBw4 := hide ((unhide HBw3).trans (hbw4.mono (unhide HBw3).size))
  clear hbw4 HBw3 HGw3
  go_wp2_with fail
  obtain ⟨w5, hw5⟩ : ∃ w5, w5 = w4.alloc (.cells #[.int .u8 8, .int .u8 2, .int .u8 120, .int .u8 2] 5) := ⟨_, rfl⟩
  rw [← hw5]
  have hbw5 : Below w4.heap.size w4 w5 := by rw [hw5]; exact (Below.refl _ _).alloc (Nat.le_refl _) _
  have hgw5 : Bytes w5 (.slice (some ⟨w4.heap.size, 0, none⟩) 4 4) (exO 4 [120] 1 0).bytes := by rw [hw5, exB4]; exact bytes_blockO (heap_alloc_new _ _) rfl (by unfold maxLen; omega)
  have HBw5 := hide ((unhide HBw4).trans (hbw5.mono (unhide HBw4).size))
  have HGw5 := hide hgw5
  clear hw5 hbw5 hgw5 HBw4
  refine (says_any (exO 4 [120] 1 0) (fun _ => True) _ _ _ _ w5 (exO_at _ _ rfl (by omega) (by unfold maxLen; simp) (by unfold InR; omega) (by unfold InR; omega)) exR4 (exO_lt _ _ _ _) (unhide HTB _ (unhide HBw5)) (unhide HGw5) (by omega)).mono ?_
  rintro e w6 ⟨rfl, hbw6⟩
  have HBw6 := hide ((unhide HBw5).trans (hbw6.mono (unhide HBw5).size))
  clear hbw6 HBw5 HGw5
  go_wp2_with fail
  obtain ⟨w7, hw7⟩ : ∃ w7, w7 = w6.alloc (.cells #[.int .u8 2, .int .u8 0, .int .u8 6] 5) := ⟨_, rfl⟩
  rw [← hw7]
  have hbw7 : Below w6.heap.size w6 w7 := by rw [hw7]; exact (Below.refl _ _).alloc (Nat.le_refl _) _
  have hgw7 : Bytes w7 (.slice (some ⟨w6.heap.size, 0, none⟩) 3 3) (exO 1 [] 0 3).bytes := by rw [hw7, exB1]; exact bytes_blockO (heap_alloc_new _ _) rfl (by unfold maxLen; omega)
  have HBw7 := hide ((unhide HBw6).trans (hbw7.mono (unhide HBw6).size))
  have HGw7 := hide hgw7
  clear hw7 hbw7 hgw7 HBw6
  refine (says_any (exO 1 [] 0 3) (fun _ => True) _ _ _ _ w7 (exO_at _ _ rfl (by omega) (by unfold maxLen; simp) (by unfold InR; omega) (by unfold InR; omega)) exR1 (exO_lt _ _ _ _) (unhide HTB _ (unhide HBw7)) (unhide HGw7) (by omega)).mono ?_
  rintro e w8 ⟨rfl, hbw8⟩
  have HBw8 := hide ((unhide HBw7).trans (hbw8.mono (unhide HBw7).size))
  clear hbw8 HBw7 HGw7
  go_wp2_with fail
  obtain ⟨w9, hw9⟩ : ∃ w9, w9 = w8.alloc (.cells #[.int .u8 6, .int .u8 2, .int .u8 120, .int .u8 2, .int .u8 0, .int .u8 0, .int .u8 0] 5) := ⟨_, rfl⟩
  rw [← hw9]
  have hbw9 : Below w8.heap.size w8 w9 := by rw [hw9]; exact (Below.refl _ _).alloc (Nat.le_refl _) _
  have hgw9 : Bytes w9 (.slice (some ⟨w8.heap.size, 0, none⟩) 7 7) (exO 3 [120] 1 0).bytes := by rw [hw9, exB3]; exact bytes_blockO (heap_alloc_new _ _) rfl (by unfold maxLen; omega)
  have HBw9 := hide ((unhide HBw8).trans (hbw9.mono (unhide HBw8).size))
  have HGw9 := hide hgw9
  clear hw9 hbw9 hgw9 HBw8
  refine (says_any (exO 3 [120] 1 0) (fun _ => True) _ _ _ _ w9 (exO_at _ _ rfl (by omega) (by unfold maxLen; simp) (by unfold InR; omega) (by unfold InR; omega)) exR3 (exO_lt _ _ _ _) (unhide HTB _ (unhide HBw9)) (unhide HGw9) (by omega)).mono ?_
  rintro e w10 ⟨rfl, hbw10⟩
  have HBw10 := hide ((unhide HBw9).trans (hbw10.mono (unhide HBw9).size))
  clear hbw10 HBw9 HGw9
  go_wp2_with fail
  go_ret
  exact ⟨rfl, unhide HBw10⟩
end Go.Proofs.YtdlbpbglidhlfaaGreatDoor
