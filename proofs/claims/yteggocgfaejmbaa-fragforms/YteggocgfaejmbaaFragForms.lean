/- FragForms of foremanlaw09: its walk. No statement of the seat is proved here. -/
import Derived.Test.YteggocgfaejmbaaBase06
import Derived.Test.YteggocgfaejmbaaBase07
import Derived.Test.YteggocgfaejmbaaFragCut
import Derived.Deep.RegionHeld3
namespace Go.Proofs.Yteggocgfaejmbaa
open Go.RowKit

theorem heapAF (w : World) (o : Obj) : (w.alloc o).heap = w.heap.push o := rfl
theorem heapDF (w : World) : w.drew.heap = w.heap := rfl
/-- The same item as a task, and as one that is turned. -/
def taskF (x : FI) : FI := ⟨x.name, 0, x.after, [], 0, x.quota⟩
def turnedF (x : FI) : FI := ⟨x.name, 1, x.after, [97], 40, x.quota⟩
theorem task_turned (x : FI) : (taskF x).right = (turnedF x).right := by
  have h : nameB [97] = true := by decide
  simp [FI.right, FI.okP, FI.kindOk, taskF, turnedF, h]
  rfl
theorem taskF_at {B : Nat → Prop} {W : World} {x : FI} {z zo : ByteArray} {K pn pc : Nat} {pa : Option Addr} {wd qt : Int} (h : x.At B W (.agg #[.string z, .int .u8 ((K : Nat) : Int), .slice pa pn pc, .string zo, .int .i64 wd, .int .i64 qt])) : (taskF x).At B W (.agg #[.string z, .int .u8 0, .slice pa pn pc, .string ⟨#[]⟩, .int .i64 0, .int .i64 qt]) := by
  obtain ⟨rfl, rfl, rfl, rfl, rfl, rfl, ⟨f1, f2, f3, f4, f5⟩, h1, h2, h3⟩ := h.parts
  exact ⟨pa, pc, rfl, ⟨f1, by show (0 : Nat) < 256; omega, Nat.zero_le _, by show InR 0; unfold InR; omega, f5⟩, h1, h2, h3⟩
theorem turnedF_at {B : Nat → Prop} {W : World} {x : FI} {z zo : ByteArray} {K pn pc : Nat} {pa : Option Addr} {wd qt : Int} (h : x.At B W (.agg #[.string z, .int .u8 ((K : Nat) : Int), .slice pa pn pc, .string zo, .int .i64 wd, .int .i64 qt])) : (turnedF x).At B W (.agg #[.string z, .int .u8 1, .slice pa pn pc, .string ⟨#[97]⟩, .int .i64 40, .int .i64 qt]) := by
  obtain ⟨rfl, rfl, rfl, rfl, rfl, rfl, ⟨f1, f2, f3, f4, f5⟩, h1, h2, h3⟩ := h.parts
  exact ⟨pa, pc, rfl, ⟨f1, by show (1 : Nat) < 256; omega, by show (1 : Nat) ≤ _; unfold maxLen; omega, by show InR 40; unfold InR; omega, f5⟩, h1, h2, h3⟩

theorem step_append_oldF {W Y : World} {ops : Array Oper} {o : Oper} {a : Act} {K : Act → World → Prop} {Q : Exit → Act → World → Prop} {Ep : Prop}
    (hg : o.guard = none) (s x : Operand) (hop : o.op = Op.call { callee := Callee.builtin Builtin.append, args := #[s, x], argTypes := #[22, 22] })
    (v : Value) (q : List FI) (hsv : a.eval s = v) (hO : IT W v q Y) (ya : Option Addr) (n c : Nat) (m : List FI) (hx : a.eval x = .slice ya n c) (hm : FragAt (fun k => k < W.heap.size) Y m (.slice ya n c)) (ha : ya = none → c = 0) (hl : q.length + m.length ≤ 1000000)
    (hK : ∀ v' Y', IT W v' (q ++ m) Y' → (∀ k, k < Y.heap.size → v.ownBlock ≠ some k → Y'.heap[k]? = Y.heap[k]?) → (v'.ownBlock = v.ownBlock ∨ ∃ k, v'.ownBlock = some k ∧ Y.heap.size ≤ k) → K (a.put o.dst v') Y') :
    if Region.wanted o (yielded ops a.tmps) = true then Oper.wp Try.prog o a Y K Q else Ep := step_append_itF hg s x hop v q hsv hO ya n c m hx (hO.old hm) ha hl hK
theorem step_append_oneF {W Y : World} {ops : Array Oper} {o : Oper} {a : Act} {K : Act → World → Prop} {Q : Exit → Act → World → Prop} {Ep : Prop}
    (hg : o.guard = none) (s x : Operand) (hop : o.op = Op.call { callee := Callee.builtin Builtin.append, args := #[s, x], argTypes := #[22, 22] })
    (v : Value) (q : List FI) (hsv : a.eval s = v) (hO : IT W v q Y) (g : Nat) (hx : a.eval x = .slice (some ⟨g, 0, none⟩) 1 1) {z zo : ByteArray} {Kd : Nat} {pa : Option Addr} {pn pc : Nat} {wd qt : Int} {i : FI} (hi : i.At (fun k => k < W.heap.size) Y (.agg #[.string z, .int .u8 ((Kd : Nat) : Int), .slice pa pn pc, .string zo, .int .i64 wd, .int .i64 qt])) {t : TypeId}
    (hgc : Y.heap[g]? = some (.cells #[.string z, .int .u8 ((Kd : Nat) : Int), .slice pa pn pc, .string zo, .int .i64 wd, .int .i64 qt] t (0, 0))) (hne : v.ownBlock ≠ some g) (hl : q.length + 1 ≤ 1000000)
    (hK : ∀ v' Y', IT W v' (q ++ [i]) Y' → (∀ k, k < Y.heap.size → v.ownBlock ≠ some k → Y'.heap[k]? = Y.heap[k]?) → (v'.ownBlock = v.ownBlock ∨ ∃ k, v'.ownBlock = some k ∧ Y.heap.size ≤ k) → K (a.put o.dst v') Y') :
    if Region.wanted o (yielded ops a.tmps) = true then Oper.wp Try.prog o a Y K Q else Ep := step_append_itF hg s x hop v q hsv hO _ 1 1 [i] hx (one_itemF hO hi hgc hne) (fun e => by cases e) hl hK
theorem neq_new {W Y : World} {v : Value} {q : List FI} (h : IT W v q Y) {g : Nat} (hg : Y.heap.size ≤ g) : v.ownBlock ≠ some g := fun e => by have := h.1.lt e; omega
theorem neq_old {A n g : Nat} {v : Value} (h : v.ownBlock = (Value.slice (some ⟨A, 0, none⟩) 0 0).ownBlock ∨ ∃ k, v.ownBlock = some k ∧ n ≤ k) (h1 : g ≠ A) (h2 : g < n) : v.ownBlock ≠ some g := fun e => by
  rcases h with h | ⟨k, h, hle⟩
  · rw [h] at e
    have e' : A = g := by simpa [Value.ownBlock] using e
    omega
  · rw [h] at e
    cases e
    omega

set_option linter.unusedSimpArgs false in
set_option maxRecDepth 100000 in
set_option maxHeartbeats 8000000 in
theorem formsLaw_any (l : List FI) (a0 : Option Addr) (n0 c0 : Nat) (x : FI) (u : Value) (y : Nat) (w : World) (hn : n0 = l.length) (hL : FragAt (fun _ => True) w l (.slice a0 n0 c0)) (hc : a0 = none → c0 = 0) (hX : x.At (fun _ => True) w u) (hy : y < 256) :
    Calls Try.prog 7 #[.slice a0 n0 c0, u, .int .u8 ((y : Nat) : Int)] w fun e w' => e = .returned (.bool true) ∧ Below w.heap.size w w' := by
  obtain ⟨z, K, pa, pn, pc, zo, wd, qt, rfl⟩ := hX.form
  obtain ⟨W1, hW1⟩ : ∃ W1, W1 = w.alloc (.cells #[.string z, .int .u8 ((K : Nat) : Int), .slice pa pn pc, .string zo, .int .i64 wd, .int .i64 qt] 47) := ⟨_, rfl⟩
  have hb1 : Below w.heap.size w W1 := by rw [hW1]; exact (Below.refl _ w).alloc (Nat.le_refl _) _
  have hr1 : W1.heap[w.heap.size]? = some (.cells #[.string z, .int .u8 ((K : Nat) : Int), .slice pa pn pc, .string zo, .int .i64 wd, .int .i64 qt] 47 (0, 0)) := by rw [hW1]; exact heap_alloc_new w _
  obtain ⟨g, hg⟩ : ∃ g, g = w.heap.size := ⟨_, rfl⟩
  have hnc : n0 ≤ c0 := by obtain ⟨a', c', hv, h1, _⟩ := hL; simp only [Value.slice.injEq] at hv; omega
  have HAA : Hid (∀ X, Below W1.heap.size W1 X → FragAt (fun k => k < W1.heap.size) X l (.slice a0 n0 c0) ∧ x.At (fun k => k < W1.heap.size) X (.agg #[.string z, .int .u8 ((K : Nat) : Int), .slice pa pn pc, .string zo, .int .i64 wd, .int .i64 qt]) ∧ X.heap[g]? = some (.cells #[.string z, .int .u8 ((K : Nat) : Int), .slice pa pn pc, .string zo, .int .i64 wd, .int .i64 qt] 47 (0, 0))) := fun X hX' =>
    ⟨hL.kept (fun k _ hk => (hX'.block k (Nat.lt_of_lt_of_le hk hb1.size)).trans (hb1.block k hk)) (fun k _ hk => Nat.lt_of_lt_of_le hk hb1.size), hX.kept (fun k _ hk => (hX'.block k (Nat.lt_of_lt_of_le hk hb1.size)).trans (hb1.block k hk)) (fun k _ hk => Nat.lt_of_lt_of_le hk hb1.size), by rw [hg]; exact (hX'.block _ (Array.getElem?_eq_some_iff.1 hr1).1).trans hr1⟩
  have HAW : Hid (∀ W, Below W1.heap.size W1 W → Calls Try.prog 10 #[] W fun e w' => e = .returned (.bool true) ∧ Below w.heap.size w w') := fun W hW => (awakeF_any W).mono fun e w' ⟨h1, h2⟩ => ⟨h1, hb1.trans ((hW.trans (h2.mono hW.size)).mono hb1.size)⟩
  have HB1 := hide hb1
  have HN := hide hn
  have HC0 := hide hc
  have HNC := hide hnc
  have HW1 := hide hW1
  clear hL hX hn hc hb1 hr1 hW1 hnc
  go_enter Try.func7, Try.ntmps7
  go_upto_region 1 with fail
  rw [← unhide HW1, ← hg]
  clear HW1 hg
  go_wp2_with fail
  refine (few_any l _ _ W1 (unhide HAA W1 (Below.refl _ _)).1).mono ?_
  rintro e w2 ⟨⟨f1, rfl, hf1⟩, hb2⟩
  have HB2 := hide hb2
  have HF1 := hide hf1
  clear hb2 hf1
  cases f1 with
  | false =>
    go_wp2_with fail
    refine (unhide HAW _ (unhide HB2)).mono ?_
    rintro e w3 ⟨rfl, hbw3⟩
    have HBw3 := hide hbw3
    clear hbw3
    go_wp2_with fail
    go_ret
    exact ⟨rfl, unhide HBw3⟩
  | true =>
  have HFW : Hid (FewF l) := by first | exact unhide HF1 trivial | exact unhide HF1 rfl
  clear HF1
  obtain ⟨d0, d1, d2, d3, d4, d5⟩ := cells6 (unhide HAA w2 (unhide HB2)).2.2
  obtain ⟨w3, hw3⟩ : ∃ w3, w3 = w2.alloc (.cells #[.string z, .int .u8 ((K : Nat) : Int), .slice pa pn pc, .string zo, .int .i64 wd, .int .i64 qt] 47) := ⟨_, rfl⟩
  have hb3 : Below w2.heap.size w2 w3 := by rw [hw3]; exact (Below.refl _ _).alloc (Nat.le_refl _) _
  have HG3 : Hid (w3.heap[w2.heap.size]? = some (.cells #[.string z, .int .u8 ((K : Nat) : Int), .slice pa pn pc, .string zo, .int .i64 wd, .int .i64 qt] 47 (0, 0))) := by show _ = _; rw [hw3]; exact heap_alloc_new _ _
  have HB3 : Hid (Below W1.heap.size W1 w3) := (unhide HB2).trans (hb3.mono (unhide HB2).size)
  clear hb3
  go_wp2_with fail
  rw [← hw3]
  clear d0 d1 d2 d3 d4 d5 hw3
  refine (few_any [x] _ _ w3 (lone_itemF (unhide HAA w3 (unhide HB3)).2.1 (unhide HG3))).mono ?_
  rintro e w4 ⟨⟨f2, rfl, hf2⟩, hb4⟩
  have HB4 := hide ((unhide HB3).trans (hb4.mono (unhide HB3).size))
  clear hb4 hf2 HB3 HG3 HB2
  cases f2 with
  | false =>
    go_wp2_with fail
    refine (unhide HAW _ (unhide HB4)).mono ?_
    rintro e w5 ⟨rfl, hbw5⟩
    have HBw5 := hide hbw5
    clear hbw5
    go_wp2_with fail
    go_ret
    exact ⟨rfl, unhide HBw5⟩
  | true =>
  have hn60 : n0 ≤ 60 := by rw [unhide HN]; exact (unhide HFW).1
  clear HFW
  go_upto_region 3 with fail
  go_cut [7] (fun v wx => v = .bool (decide (n0 ≤ 40)) ∧ wx = w4)
  case first =>
    have hd : decide (((n0 : Nat) : Int) ≤ 40) = decide (n0 ≤ 40) := by rw [Bool.eq_iff_iff, decide_eq_true_iff, decide_eq_true_iff]; omega
    go_wp2_with fail
    go_meet
    exact ⟨by rw [← hd], rfl⟩
  obtain ⟨rfl, hw⟩ := hcut
  rw [hw]
  clear hw
  obtain ⟨b0, hb0⟩ : ∃ b0, b0 = decide (n0 ≤ 40) := ⟨_, rfl⟩
  rw [← hb0]
  have HB0 := hide hb0
  clear hb0
  go_wp2_with fail
  go_loopw [7, 29] (fun v k W => ∃ j : Nat, j ≤ n0 ∧ k = .int .i64 ((j : Nat) : Int) ∧ v = .bool (b0 && (l.take j).all FI.right) ∧ Below W1.heap.size W1 W) (fun _ k _ => n0 - (intOf k).toNat)
  case atStart => exact ⟨0, by omega, rfl, by simp, unhide HB4⟩
  case round =>
    obtain ⟨j, hj, rfl, rfl, hb⟩ := hrel
    have HB := hide hb
    clear hb
    by_cases hlt : j < n0
    · have hji : ((j : Nat) : Int) < ((n0 : Nat) : Int) := by omega
      have hjl : j < l.length := by have := unhide HN; omega
      have hts : (l.take (j + 1)).all FI.right = ((l.take j).all FI.right && (l[j]'hjl).right) := by
        rw [List.take_succ_eq_append_getElem hjl, List.all_append]
        simp
      obtain ⟨v, hv⟩ : ∃ v, v = (b0 && (l.take j).all FI.right) := ⟨_, rfl⟩
      rw [← hv]
      have HV : Hid ((b0 && (l.take (j + 1)).all FI.right) = (v && (l[j]'hjl).right)) := by show _ = _; rw [hts, hv, Bool.and_assoc]
      clear hv hts
      cases v with
      | false =>
        go_wp2_with fail
        exact ⟨⟨j + 1, by omega, by go_num, by rw [unhide HV]; rfl, unhide HB⟩, by simp [intOf]; omega⟩
      | true =>
        have hcut1 := (unhide HAA _ (unhide HB)).1.cut (lo := j) (hi := j + 1) (by omega) (by omega)
        have he : (l.drop j).take (j + 1 - j) = [l[j]'hjl] := by rw [show j + 1 - j = 1 by omega, List.drop_eq_getElem_cons hjl]; rfl
        rw [he, show j + 1 - j = 1 by omega] at hcut1
        have hrun := fun W => items_mid (a := a0) (n := n0) (c := c0) (lo := j) (hi := j + 1) (by omega) (by have := unhide HNC; omega) (H := ((j : Nat) : Int) + 1) (by omega) W
        rw [show j + 1 - j = 1 by omega] at hrun
        obtain ⟨sa, hsa⟩ : ∃ sa, sa = (if c0 = j then a0 else a0.map (·.add (j * 6))) := ⟨_, rfl⟩
        obtain ⟨sc, hsc⟩ : ∃ sc, sc = c0 - j := ⟨_, rfl⟩
        rw [← hsa, ← hsc] at hcut1 hrun
        have HCUT := hide hcut1
        clear hcut1 he hsa hsc
        go_wp2_with fail
        refine (fRight_any _ _ _ _ (unhide HCUT)).mono ?_
        rintro e w5 ⟨rfl, hb5⟩
        rw [rightF_one]
        have HB5 := hide ((unhide HB).trans (hb5.mono (unhide HB).size))
        clear hb5 hrun HCUT
        go_wp2_with fail
        exact ⟨⟨j + 1, by omega, by go_num, by rw [unhide HV]; simp, unhide HB5⟩, by simp [intOf]; omega⟩
    · have e : j = n0 := by omega
      have hji : ¬ ((j : Nat) : Int) < ((n0 : Nat) : Int) := by omega
      have HV : Hid ((b0 && (l.take j).all FI.right) = rightF l) := by
        show _ = _
        rw [List.take_of_length_le (by have := unhide HN; omega), unhide HB0, unhide HN]
        rfl
      rw [unhide HV]
      clear e hlt hj HV
      obtain ⟨rb, hrb⟩ : ∃ rb, rb = rightF l := ⟨_, rfl⟩
      rw [← hrb]
      have HRB := hide hrb
      clear hrb
      have hnn : (rb != rb) = false := by cases rb <;> rfl
      have hne : (rb == rb) = true := by cases rb <;> rfl
      go_wp2_with fail
      refine (fRight_any l _ _ _ (unhide HAA _ (unhide HB)).1).mono ?_
      rintro e w5 ⟨rfl, hb5⟩
      rw [← unhide HRB]
      have HB5 := hide ((unhide HB).trans (hb5.mono (unhide HB).size))
      clear hb5 HB
      go_upto_region 11 with fail
      clear hnn hne
      obtain ⟨k, hk⟩ : ∃ k, k = y % (n0 + 1) := ⟨_, rfl⟩
      have hwn : IntKind.i64.wrap (((n0 : Nat) : Int) + 1) = ((n0 + 1 : Nat) : Int) := by rw [IntKind.wrap_i64]; omega
      have hmodE : ((y : Nat) : Int) % (((n0 : Nat) : Int) + 1) = ((k : Nat) : Int) := by rw [hk]; have h := Int.natCast_emod y (n0 + 1); rw [show ((n0 + 1 : Nat) : Int) = ((n0 : Nat) : Int) + 1 by omega] at h; exact h.symm
      have hmodT : ((y : Nat) : Int).tmod (((n0 : Nat) : Int) + 1) = ((k : Nat) : Int) := by rw [Int.tmod_eq_emod_of_nonneg (by omega)]; exact hmodE
      have hp0 : ¬ (((n0 : Nat) : Int) + 1) = 0 := by omega
      have hkn : k ≤ n0 := by rw [hk]; have := Nat.mod_lt y (show 0 < n0 + 1 by omega); omega
      clear hk
      go_upto_region 12 with fail
      obtain ⟨s1, hs1⟩ : ∃ s, s = (if c0 = 0 then a0 else a0.map (·.add (0 * 6))) := ⟨_, rfl⟩
      obtain ⟨t1, ht1⟩ : ∃ t, t = c0 - 0 := ⟨_, rfl⟩
      obtain ⟨s2, hs2⟩ : ∃ s, s = (if c0 = k then a0 else a0.map (·.add (k * 6))) := ⟨_, rfl⟩
      obtain ⟨t2, ht2⟩ : ∃ t, t = c0 - k := ⟨_, rfl⟩
      obtain ⟨m2, hm2⟩ : ∃ m, m = n0 - k := ⟨_, rfl⟩
      have q1 := fun W => items_to (a := a0) (n := n0) (c := c0) (hi := k) (by have := unhide HNC; omega) W
      rw [← hs1, ← ht1, Nat.sub_zero] at q1
      have q1' := fun W => (items_sliceAt W (.slice a0 n0 c0) none (some (.int .i64 ((k : Nat) : Int))) none).trans (q1 W)
      have q2 := fun W => items_from (a := a0) (n := n0) (c := c0) (lo := k) hkn W
      rw [← hs2, ← ht2, ← hm2] at q2
      have q2' := fun W => (items_sliceAt W (.slice a0 n0 c0) (some (.int .i64 ((k : Nat) : Int))) none none).trans (q2 W)
      have HS1 : Hid (s1 = none → t1 = 0) := by rw [hs1, ht1]; exact cut_none (unhide HC0)
      have HS2 : Hid (s2 = none → t2 = 0) := by rw [hs2, ht2]; exact cut_none (unhide HC0)
      have HW5 : Hid (∀ X, Below w5.heap.size w5 X → FragAt (fun k => k < w5.heap.size) X l (.slice a0 n0 c0) ∧ x.At (fun k => k < w5.heap.size) X (.agg #[.string z, .int .u8 ((K : Nat) : Int), .slice pa pn pc, .string zo, .int .i64 wd, .int .i64 qt]) ∧ X.heap[g]? = some (.cells #[.string z, .int .u8 ((K : Nat) : Int), .slice pa pn pc, .string zo, .int .i64 wd, .int .i64 qt] 47 (0, 0))) := fun X hX => by
        have h := unhide HAA X ((unhide HB5).trans (hX.mono (unhide HB5).size))
        have hs := (unhide HB5).size
        exact ⟨h.1.wider fun k hk => by omega, h.2.1.kept (fun _ _ _ => rfl) (fun k hk _ => by omega), h.2.2⟩
      have HLO : Hid (∀ X, Below w5.heap.size w5 X → FragAt (fun k => k < w5.heap.size) X (l.take k) (.slice s1 k t1)) := fun X hX => by
        have h := (unhide HW5 X hX).1.cut (lo := 0) (hi := k) (Nat.zero_le _) hkn
        rw [← hs1, ← ht1, Nat.sub_zero, List.drop_zero] at h
        exact h
      have HHI : Hid (∀ X, Below w5.heap.size w5 X → FragAt (fun k => k < w5.heap.size) X (l.drop k) (.slice s2 m2 t2)) := fun X hX => by
        have h := (unhide HW5 X hX).1.cut (lo := k) (hi := n0) hkn (Nat.le_refl _)
        rw [← hs2, ← ht2, ← hm2, List.take_of_length_le (by rw [List.length_drop, ← unhide HN]; omega)] at h
        exact h
      have HLL : Hid (l.length ≤ 60) := by show _ ≤ _; rw [← unhide HN]; exact hn60
      have HKS : Hid (∀ X, Below w5.heap.size w5 X → X.cell? ⟨g, 0, none⟩ = some (.string z) ∧ X.cell? ⟨g, 1, none⟩ = some (.int .u8 ((K : Nat) : Int)) ∧ X.cell? ⟨g, 2, none⟩ = some (.slice pa pn pc) ∧ X.cell? ⟨g, 3, none⟩ = some (.string zo) ∧ X.cell? ⟨g, 4, none⟩ = some (.int .i64 wd) ∧ X.cell? ⟨g, 5, none⟩ = some (.int .i64 qt) ∧ Below w5.heap.size w5 X) := fun X hX => by
        obtain ⟨d0, d1, d2, d3, d4, d5⟩ := cells6 (unhide HW5 X hX).2.2
        exact ⟨d0, d1, d2, d3, d4, d5, hX⟩
      clear hs1 ht1 hs2 ht2 hm2 hmodE hmodT hwn hp0
      go_cut [10] (fun v wx => ∃ ma mn mc, v = .slice ma mn mc ∧ mn = n0 + 1 ∧ FragAt (fun _ => True) wx (l.take k ++ [x] ++ l.drop k) (.slice ma mn mc) ∧ Below w5.heap.size w5 wx)
      case first =>
        go_region_held3 (fun X => X.cell? ⟨g, 0, none⟩ = some (.string z) ∧ X.cell? ⟨g, 1, none⟩ = some (.int .u8 ((K : Nat) : Int)) ∧ X.cell? ⟨g, 2, none⟩ = some (.slice pa pn pc) ∧ X.cell? ⟨g, 3, none⟩ = some (.string zo) ∧ X.cell? ⟨g, 4, none⟩ = some (.int .i64 wd) ∧ X.cell? ⟨g, 5, none⟩ = some (.int .i64 qt) ∧ Below w5.heap.size w5 X)
          ((refine unhide HKS _ ?_; repeat' (first | assumption | exact Below.refl _ _ | refine Below.drew ?_ | refine Below.alloc ?_ ?_ _ | (have q2 := hBA.size; simp; omega) | (have q2 := hBA.size; dsimp only; omega) | (simp; done) | (simp; omega) | (dsimp only; omega))))
          (first
            | (refine step_append_oldF (W := w5) rfl (.tmp 52) (.tmp 55) rfl _ [] rfl (IT.empty (by exact (by assumption : _ ∧ _ ∧ _ ∧ _ ∧ _ ∧ _ ∧ Below w5.heap.size w5 _).2.2.2.2.2.2) (by simp only [heapAF, heapDF, Array.getElem?_push]; first | done | (simp; done) | (simp; omega)) (by first | (simp only [heapAF, heapDF, Array.size_push]; omega) | omega | (simp; done) | (simp; omega))) s1 k t1 (l.take k) rfl (unhide HLO _ (by exact (by assumption : _ ∧ _ ∧ _ ∧ _ ∧ _ ∧ _ ∧ Below w5.heap.size w5 _).2.2.2.2.2.2)) (unhide HS1) (by have := unhide HLL; rw [List.length_take]; simp; omega) ?_; intro v1 Y1 hO1 hk1 hn1; have hBA := hO1.2; have HO1 := hide hO1; have HBK := hide hk1; have HN1 := hide hn1; clear hO1 hk1 hn1)
            | (refine step_append_oneF (W := w5) (z := z) (zo := zo) (Kd := K) (pa := pa) (pn := pn) (pc := pc) (wd := wd) (qt := qt) (i := x) (t := 47) rfl (.tmp 56) (.tmp 58) rfl _ ([] ++ l.take k) rfl ((unhide HO1).later (by repeat' (first | assumption | exact Below.refl _ _ | refine Below.drew ?_ | refine Below.alloc ?_ ?_ _ | (simp; done) | (simp; omega) | (dsimp only; omega)))) _ rfl (unhide HW5 _ (by exact (by assumption : _ ∧ _ ∧ _ ∧ _ ∧ _ ∧ _ ∧ Below w5.heap.size w5 _).2.2.2.2.2.2)).2.1 (by first | (simp only [heapAF, heapDF, Array.getElem?_push]; first | done | (simp; done) | (simp; omega)) | (refine (unhide HBK _ (by first | (simp only [heapAF, heapDF, Array.size_push]; omega) | omega | (simp; done) | (simp; omega)) (by simp [Act.eval, Value.ownBlock])).trans ?_; simp only [heapAF, heapDF, Array.getElem?_push]; first | done | (simp; done) | (simp; omega))) (by first | (refine neq_new (unhide HO1) ?_; first | exact Nat.le_refl _ | (simp only [heapAF, heapDF, Array.size_push]; omega) | (simp; done) | (simp; omega)) | ((refine neq_old (unhide HN1) ?_ ?_) <;> first | omega | (simp; done) | (simp; omega) | (simp only [heapAF, heapDF, Array.size_push]; omega))) (by have := unhide HLL; rw [List.length_append, List.length_take]; simp; omega) ?_; intro v2 Y2 hO2 hk2 hn2; have hBB := hO2.2; have HO2 := hide hO2; clear hO2 hk2 hn2)
            | (refine step_append_oldF (W := w5) rfl (.tmp 59) (.tmp 62) rfl _ ([] ++ l.take k ++ [x]) rfl ((unhide HO2).later (by repeat' (first | assumption | exact Below.refl _ _ | refine Below.drew ?_ | refine Below.alloc ?_ ?_ _ | (simp; done) | (simp; omega) | (dsimp only; omega)))) s2 m2 t2 (l.drop k) rfl (unhide HHI _ (by exact (by assumption : _ ∧ _ ∧ _ ∧ _ ∧ _ ∧ _ ∧ Below w5.heap.size w5 _).2.2.2.2.2.2)) (unhide HS2) (by have := unhide HLL; simp only [List.nil_append, List.length_append, List.length_take, List.length_drop, List.length_singleton]; omega) ?_; intro v3 Y3 hO3 hk3 hn3; have hBC := hO3.2; have HO3 := hide hO3; clear hO3 hk3 hn3))
        all_goals (
          go_wp2_with fail
          go_meet
          obtain ⟨ma, mc, hv, _⟩ := (unhide HO3).1.form
          have hF := (unhide HO3).1.at (C := fun _ => True) (fun _ _ => trivial) (fun _ _ _ => trivial)
          rw [List.nil_append] at hF
          rw [hv] at hF
          exact ⟨ma, _, mc, hv, by have := unhide HN; simp only [List.nil_append, List.length_append, List.length_take, List.length_drop, List.length_singleton]; omega, hF, (unhide HO3).2⟩)
      obtain ⟨ma, mn, mc, rfl, hmn, hmF, hb6⟩ := hcut
      have HMN := hide hmn
      have HB6 := hide ((unhide HB5).trans (hb6.mono (unhide HB5).size))
      have HMF := hide hmF
      clear hmn hmF hb6 q1 q1' q2 q2' HS1 HS2 HW5 HLO HHI HKS HB5
      generalize wc = w6 at *
      obtain ⟨xr, hxr⟩ : ∃ xr, xr = x.right := ⟨_, rfl⟩
      obtain ⟨wb, hwb⟩ : ∃ wb, wb = rightF (l.take k ++ [x] ++ l.drop k) := ⟨_, rfl⟩
      have HWB : Hid (wb = (rb && xr && decide (mn ≤ 40))) := by
        show _ = _
        rw [hwb, rightF_more, ← hxr, unhide HRB, unhide HMN, ← unhide HN]
        unfold rightF
        rw [← unhide HN]
        by_cases h : n0 + 1 ≤ 40
        · rw [decide_eq_true h, decide_eq_true (show n0 ≤ 40 by omega)]; simp
        · rw [decide_eq_false h]; simp
      have HXR := hide hxr
      have HWE := hide hwb
      clear hxr hwb
      obtain ⟨d0, d1, d2, d3, d4, d5⟩ := cells6 (unhide HAA w6 (unhide HB6)).2.2
      go_upto_region 13 with fail
      go_cut [11] (fun v wx => v = .bool wb ∧ Below w6.heap.size w6 wx)
      case first =>
        cases rb with
        | false =>
          have HV : Hid (wb = false) := by show _ = _; rw [unhide HWB]; rfl
          go_wp2_with fail
          go_meet
          exact ⟨by rw [unhide HV], Below.refl _ _⟩
        | true =>
          obtain ⟨w7, hw7⟩ : ∃ w7, w7 = w6.alloc (.cells #[.string z, .int .u8 ((K : Nat) : Int), .slice pa pn pc, .string zo, .int .i64 wd, .int .i64 qt] 47) := ⟨_, rfl⟩
          have hb7 : Below w6.heap.size w6 w7 := by rw [hw7]; exact (Below.refl _ _).alloc (Nat.le_refl _) _
          have HG7 : Hid (w7.heap[w6.heap.size]? = some (.cells #[.string z, .int .u8 ((K : Nat) : Int), .slice pa pn pc, .string zo, .int .i64 wd, .int .i64 qt] 47 (0, 0))) := by show _ = _; rw [hw7]; exact heap_alloc_new _ _
          have HB7 := hide hb7
          clear hb7
          go_wp2_with fail
          rw [← hw7]
          clear d0 d1 d2 d3 d4 d5 hw7
          refine (fRight_any [x] _ _ w7 (lone_itemF (unhide HAA w7 ((unhide HB6).trans ((unhide HB7).mono (unhide HB6).size))).2.1 (unhide HG7))).mono ?_
          rintro e w8 ⟨rfl, hb8⟩
          rw [rightF_one, ← unhide HXR]
          have HB8 := hide ((unhide HB7).trans (hb8.mono (unhide HB7).size))
          clear hb8 HB7 HG7
          have hd : decide (((mn : Nat) : Int) ≤ 40) = decide (mn ≤ 40) := by rw [Bool.eq_iff_iff, decide_eq_true_iff, decide_eq_true_iff]; omega
          have HD := hide hd
          clear hd
          cases xr with
          | false =>
            have HV : Hid (wb = false) := by show _ = _; rw [unhide HWB]; rfl
            go_wp2_with fail
            go_meet
            exact ⟨by rw [unhide HV], unhide HB8⟩
          | true =>
            have HV : Hid (wb = decide (((mn : Nat) : Int) ≤ 40)) := by show _ = _; rw [unhide HWB, unhide HD]; rfl
            go_wp2_with fail
            go_meet
            exact ⟨by rw [unhide HV], unhide HB8⟩
      obtain ⟨rfl, hb7⟩ := hcut
      generalize wc = w7 at *
      have HB7 := hide ((unhide HB6).trans (hb7.mono (unhide HB6).size))
      have HMF7 := hide ((unhide HMF).later hb7)
      clear hb7 d0 d1 d2 d3 d4 d5 HB6 HMF HWB HXR HMN
      obtain ⟨d0, d1, d2, d3, d4, d5⟩ := cells6 (unhide HAA w7 (unhide HB7)).2.2
      obtain ⟨w8, hw8⟩ : ∃ w8, w8 = w7.alloc (.cells #[.string z, .int .u8 0, .slice pa pn pc, .string ⟨#[]⟩, .int .i64 0, .int .i64 qt] 47) := ⟨_, rfl⟩
      have hb8 : Below w7.heap.size w7 w8 := by rw [hw8]; exact (Below.refl _ _).alloc (Nat.le_refl _) _
      have hg8 : w8.heap[w7.heap.size]? = some (.cells #[.string z, .int .u8 0, .slice pa pn pc, .string ⟨#[]⟩, .int .i64 0, .int .i64 qt] 47 (0, 0)) := by rw [hw8]; exact heap_alloc_new _ _
      have HB8 := hide ((unhide HB7).trans (hb8.mono (unhide HB7).size))
      have HMF8 := hide ((unhide HMF7).later hb8)
      have HG8 := hide hg8
      go_upto_region 15 with fail
      rw [← hw8]
      clear hb8 hg8 hw8 d0 d1 d2 d3 d4 d5 HMF7
      obtain ⟨d0, d1, d2, d3, d4, d5⟩ := cells6 (unhide HAA w8 (unhide HB8)).2.2
      obtain ⟨w9, hw9⟩ : ∃ w9, w9 = w8.alloc (.cells #[.string z, .int .u8 1, .slice pa pn pc, .string ⟨#[97]⟩, .int .i64 40, .int .i64 qt] 47) := ⟨_, rfl⟩
      have hb9 : Below w8.heap.size w8 w9 := by rw [hw9]; exact (Below.refl _ _).alloc (Nat.le_refl _) _
      have hg9 : w9.heap[w8.heap.size]? = some (.cells #[.string z, .int .u8 1, .slice pa pn pc, .string ⟨#[97]⟩, .int .i64 40, .int .i64 qt] 47 (0, 0)) := by rw [hw9]; exact heap_alloc_new _ _
      have hg89 := (hb9.block _ (Array.getElem?_eq_some_iff.1 (unhide HG8)).1).trans (unhide HG8)
      have HB9 := hide ((unhide HB8).trans (hb9.mono (unhide HB8).size))
      have HMF9 := hide ((unhide HMF8).later hb9)
      obtain ⟨g2, hg2⟩ : ∃ g2, g2 = w7.heap.size := ⟨_, rfl⟩
      obtain ⟨g3, hg3⟩ : ∃ g3, g3 = w8.heap.size := ⟨_, rfl⟩
      have HG9 : Hid (∀ X, Below w9.heap.size w9 X → X.heap[g2]? = some (.cells #[.string z, .int .u8 0, .slice pa pn pc, .string ⟨#[]⟩, .int .i64 0, .int .i64 qt] 47 (0, 0)) ∧ X.heap[g3]? = some (.cells #[.string z, .int .u8 1, .slice pa pn pc, .string ⟨#[97]⟩, .int .i64 40, .int .i64 qt] 47 (0, 0))) := fun X hX => by
        rw [hg2, hg3]
        exact ⟨(hX.block _ (Array.getElem?_eq_some_iff.1 hg89).1).trans hg89, (hX.block _ (Array.getElem?_eq_some_iff.1 hg9).1).trans hg9⟩
      go_upto_region 16 with fail
      rw [← hw9, ← hg2, ← hg3]
      clear hb9 hg9 hw9 hg89 d0 d1 d2 d3 d4 d5 HMF8 HG8 hg2 hg3
      obtain ⟨rr, hrr⟩ : ∃ rr, rr = (taskF x).right := ⟨_, rfl⟩
      have HM : Hid (∀ X, Below w9.heap.size w9 X → Calls Try.prog 15 #[.slice ma mn mc] X fun e w' => e = .returned (.bool wb) ∧ Below X.heap.size X w') := fun X hX => by rw [unhide HWE]; exact fRight_any _ _ _ X ((unhide HMF9).later hX)
      have HR1 : Hid (∀ X g, Below w9.heap.size w9 X → (X.heap[g]? = some (.cells #[.string z, .int .u8 0, .slice pa pn pc, .string ⟨#[]⟩, .int .i64 0, .int .i64 qt] 47 (0, 0)) ∨ X.heap[g]? = some (.cells #[.string z, .int .u8 1, .slice pa pn pc, .string ⟨#[97]⟩, .int .i64 40, .int .i64 qt] 47 (0, 0))) → Calls Try.prog 15 #[.slice (some ⟨g, 0, none⟩) 1 1] X fun e w' => e = .returned (.bool rr) ∧ Below X.heap.size X w') := fun X g hX hg => by
        have h := (unhide HAA X ((unhide HB9).trans (hX.mono (unhide HB9).size))).2.1
        rcases hg with hg | hg
        · have h2 := fRight_any [taskF x] _ _ X (lone_itemF (taskF_at h) hg)
          rw [rightF_one, ← hrr] at h2
          exact h2
        · have h2 := fRight_any [turnedF x] _ _ X (lone_itemF (turnedF_at h) hg)
          rw [rightF_one, ← task_turned, ← hrr] at h2
          exact h2
      have HA9 : Hid (∀ X, Below w9.heap.size w9 X → Calls Try.prog 10 #[] X fun e w' => e = .returned (.bool true) ∧ Below X.heap.size X w') := fun X _ => awakeF_any X
      have HKS : Hid (∀ X, Below w9.heap.size w9 X → X.cell? ⟨g2, 0, none⟩ = some (.string z) ∧ X.cell? ⟨g2, 1, none⟩ = some (.int .u8 0) ∧ X.cell? ⟨g2, 2, none⟩ = some (.slice pa pn pc) ∧ X.cell? ⟨g2, 3, none⟩ = some (.string ⟨#[]⟩) ∧ X.cell? ⟨g2, 4, none⟩ = some (.int .i64 0) ∧ X.cell? ⟨g2, 5, none⟩ = some (.int .i64 qt) ∧ X.cell? ⟨g3, 0, none⟩ = some (.string z) ∧ X.cell? ⟨g3, 1, none⟩ = some (.int .u8 1) ∧ X.cell? ⟨g3, 2, none⟩ = some (.slice pa pn pc) ∧ X.cell? ⟨g3, 3, none⟩ = some (.string ⟨#[97]⟩) ∧ X.cell? ⟨g3, 4, none⟩ = some (.int .i64 40) ∧ X.cell? ⟨g3, 5, none⟩ = some (.int .i64 qt) ∧ Below w9.heap.size w9 X) := fun X hX => by
        obtain ⟨e0, e1, e2, e3, e4, e5⟩ := cells6 (unhide HG9 X hX).1
        obtain ⟨i0, i1, i2, i3, i4, i5⟩ := cells6 (unhide HG9 X hX).2
        exact ⟨e0, e1, e2, e3, e4, e5, i0, i1, i2, i3, i4, i5, hX⟩
      have hww : (wb == wb) = true := by cases wb <;> rfl
      have hrq : (rr == rr) = true := by cases rr <;> rfl
      clear hrr HMF9 HWE HG9
      go_cut [6] (fun v wx => v = .bool true ∧ Below w9.heap.size w9 wx)
      case first =>
        go_region_held3 (fun X => X.cell? ⟨g2, 0, none⟩ = some (.string z) ∧ X.cell? ⟨g2, 1, none⟩ = some (.int .u8 0) ∧ X.cell? ⟨g2, 2, none⟩ = some (.slice pa pn pc) ∧ X.cell? ⟨g2, 3, none⟩ = some (.string ⟨#[]⟩) ∧ X.cell? ⟨g2, 4, none⟩ = some (.int .i64 0) ∧ X.cell? ⟨g2, 5, none⟩ = some (.int .i64 qt) ∧ X.cell? ⟨g3, 0, none⟩ = some (.string z) ∧ X.cell? ⟨g3, 1, none⟩ = some (.int .u8 1) ∧ X.cell? ⟨g3, 2, none⟩ = some (.slice pa pn pc) ∧ X.cell? ⟨g3, 3, none⟩ = some (.string ⟨#[97]⟩) ∧ X.cell? ⟨g3, 4, none⟩ = some (.int .i64 40) ∧ X.cell? ⟨g3, 5, none⟩ = some (.int .i64 qt) ∧ Below w9.heap.size w9 X)
          ((refine unhide HKS _ ?_; repeat' (first | assumption | exact Below.refl _ _ | refine Below.drew ?_ | refine Below.alloc ?_ ?_ _ | (exact (by assumption : Below w9.heap.size w9 _).size) | (simp; done) | (simp; omega) | (dsimp only; omega))))
          (first
            | (go_at_call 15; refine (unhide HM _ (by exact (by assumption : _ ∧ _ ∧ _ ∧ _ ∧ _ ∧ _ ∧ _ ∧ _ ∧ _ ∧ _ ∧ _ ∧ _ ∧ Below w9.heap.size w9 _).2.2.2.2.2.2.2.2.2.2.2.2)).mono ?_; rintro e wA ⟨rfl, hbA⟩; have hA : Below w9.heap.size w9 wA := ((by assumption : _ ∧ _ ∧ _ ∧ _ ∧ _ ∧ _ ∧ _ ∧ _ ∧ _ ∧ _ ∧ _ ∧ _ ∧ Below w9.heap.size w9 _).2.2.2.2.2.2.2.2.2.2.2.2).trans (hbA.mono ((by assumption : _ ∧ _ ∧ _ ∧ _ ∧ _ ∧ _ ∧ _ ∧ _ ∧ _ ∧ _ ∧ _ ∧ _ ∧ Below w9.heap.size w9 _).2.2.2.2.2.2.2.2.2.2.2.2).size); have hAs := hA.size; clear hbA HM)
            | (go_at_call 15; refine (unhide HR1 _ _ (by exact (by assumption : _ ∧ _ ∧ _ ∧ _ ∧ _ ∧ _ ∧ _ ∧ _ ∧ _ ∧ _ ∧ _ ∧ _ ∧ Below w9.heap.size w9 _).2.2.2.2.2.2.2.2.2.2.2.2) (by first | (left; simp only [heapAF, heapDF, Array.getElem?_push]; first | done | (simp; done) | (simp; omega)) | (right; simp only [heapAF, heapDF, Array.getElem?_push]; first | done | (simp; done) | (simp; omega)) | (left; refine ((unhide HBQ).block _ (by first | (simp only [heapAF, heapDF, Array.size_push]; omega) | omega | (simp; done) | (simp; omega))).trans ?_; simp only [heapAF, heapDF, Array.getElem?_push]; first | done | (simp; done) | (simp; omega)) | (right; refine ((unhide HBQ).block _ (by first | (simp only [heapAF, heapDF, Array.size_push]; omega) | omega | (simp; done) | (simp; omega))).trans ?_; simp only [heapAF, heapDF, Array.getElem?_push]; first | done | (simp; done) | (simp; omega)))).mono ?_; rintro e wB ⟨rfl, hbB⟩; have hB : Below w9.heap.size w9 wB := ((by assumption : _ ∧ _ ∧ _ ∧ _ ∧ _ ∧ _ ∧ _ ∧ _ ∧ _ ∧ _ ∧ _ ∧ _ ∧ Below w9.heap.size w9 _).2.2.2.2.2.2.2.2.2.2.2.2).trans (hbB.mono ((by assumption : _ ∧ _ ∧ _ ∧ _ ∧ _ ∧ _ ∧ _ ∧ _ ∧ _ ∧ _ ∧ _ ∧ _ ∧ Below w9.heap.size w9 _).2.2.2.2.2.2.2.2.2.2.2.2).size); have HBQ := hide hbB; have hBs := hB.size; clear hbB)
            | (go_at_call 10; refine (unhide HA9 _ (by exact (by assumption : _ ∧ _ ∧ _ ∧ _ ∧ _ ∧ _ ∧ _ ∧ _ ∧ _ ∧ _ ∧ _ ∧ _ ∧ Below w9.heap.size w9 _).2.2.2.2.2.2.2.2.2.2.2.2)).mono ?_; rintro e wC ⟨rfl, hbC⟩; have hC : Below w9.heap.size w9 wC := ((by assumption : _ ∧ _ ∧ _ ∧ _ ∧ _ ∧ _ ∧ _ ∧ _ ∧ _ ∧ _ ∧ _ ∧ _ ∧ Below w9.heap.size w9 _).2.2.2.2.2.2.2.2.2.2.2.2).trans (hbC.mono ((by assumption : _ ∧ _ ∧ _ ∧ _ ∧ _ ∧ _ ∧ _ ∧ _ ∧ _ ∧ _ ∧ _ ∧ _ ∧ Below w9.heap.size w9 _).2.2.2.2.2.2.2.2.2.2.2.2).size); clear hbC))
        all_goals (
          go_wp2_with fail
          go_meet
          first | exact ⟨rfl, hC⟩ | exact ⟨rfl, hC.drew⟩)
      obtain ⟨rfl, hb10⟩ := hcut
      have HB10 := hide ((unhide HB1).trans (((unhide HB9).trans (hb10.mono (unhide HB9).size)).mono (unhide HB1).size))
      clear hb10
      go_wp2_with fail
      go_ret
      exact ⟨rfl, unhide HB10⟩
end Go.Proofs.Yteggocgfaejmbaa
