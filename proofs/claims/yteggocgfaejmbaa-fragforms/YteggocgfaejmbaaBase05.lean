/- FragRep, FragRight, FragRight2, FragPut, GenZeros, ValConcat: our own definitions and contracts; no statement of the seat is proved here. -/
import Derived.Shelf.Strings.Repeat
import Derived.Test.YteggocgfaejmbaaBase01
import Derived.Test.YteggocgfaejmbaaBase02
import Derived.Test.YteggocgfaejmbaaBase03
import Derived.Lib.AppendZerosOnto
namespace Go.Proofs.Yteggocgfaejmbaa
open Go.Shelf Go.RowKit
def repRen : Go.Shelf.Ren := ⟨fun | 105 => 25 | 212 => 43 | 99 => 44 | 165 => 45 | 166 => 46 | 170 => 47 | 169 => 48 | 263 => 64 | 264 => 65 | 206 => 66 | 240 => 67 | 241 => 68 | 276 => 77 | 277 => 78 | n => n, fun | 9 => 9 | 3 => 3 | 4 => 4 | 20 => 20 | 0 => 0 | 46 => 72 | 109 => 73 | 5 => 5 | 72 => 77 | 76 => 81 | 51 => 98 | 146 => 99 | 53 => 91 | 148 => 101 | 70 => 75 | 37 => 23 | 75 => 80 | 127 => 103 | 164 => 110 | 80 => 84 | n => n, fun | n => n⟩
theorem repLays : Go.Proofs.Lays.n105 Try.prog repRen := {
  mixed := by kernel_rfl
  f99 := Try.func44.trans (congrArg some (by kernel_rfl))
  f105 := Try.func25.trans (congrArg some (by kernel_rfl))
  f165 := Try.func45.trans (congrArg some (by kernel_rfl))
  f166 := Try.func46.trans (congrArg some (by kernel_rfl))
  f169 := Try.func48.trans (congrArg some (by kernel_rfl))
  f170 := Try.func47.trans (congrArg some (by kernel_rfl))
  f206 := Try.func66.trans (congrArg some (by kernel_rfl))
  f212 := Try.func43.trans (congrArg some (by kernel_rfl))
  f240 := Try.func67.trans (congrArg some (by kernel_rfl))
  f241 := Try.func68.trans (congrArg some (by kernel_rfl))
  f263 := Try.func64.trans (congrArg some (by kernel_rfl))
  f264 := Try.func65.trans (congrArg some (by kernel_rfl))
  f276 := Try.func77.trans (congrArg some (by kernel_rfl))
  f277 := Try.func78.trans (congrArg some (by kernel_rfl))
  t0 := Try.underlying0
  a0 := Try.isAgg0
  z0 := Try.sizeOf0
  v0 := Try.zeroValue0
  t3 := Try.underlying3
  a3 := Try.isAgg3
  z3 := Try.sizeOf3
  v3 := Try.zeroValue3
  t4 := Try.underlying4
  a4 := Try.isAgg4
  z4 := Try.sizeOf4
  v4 := Try.zeroValue4
  t5 := Try.underlying5
  a5 := Try.isAgg5
  z5 := Try.sizeOf5
  v5 := Try.zeroValue5
  t9 := Try.underlying9
  a9 := Try.isAgg9
  z9 := Try.sizeOf9
  v9 := Try.zeroValue9
  t20 := Try.underlying20
  a20 := Try.isAgg20
  z20 := Try.sizeOf20
  v20 := Try.zeroValue20
  t37 := Try.underlying23
  a37 := Try.isAgg23
  z37 := Try.sizeOf23
  v37 := Try.zeroValue23
  t46 := Try.underlying72
  a46 := Try.isAgg72
  z46 := Try.sizeOf72
  v46 := Try.zeroValue72
  t51 := Try.underlying98
  a51 := Try.isAgg98
  z51 := Try.sizeOf98
  v51 := Try.zeroValue98
  t53 := Try.underlying91
  a53 := Try.isAgg91
  z53 := Try.sizeOf91
  v53 := Try.zeroValue91
  t70 := Try.underlying75
  a70 := Try.isAgg75
  z70 := Try.sizeOf75
  v70 := Try.zeroValue75
  t72 := Try.underlying77
  a72 := Try.isAgg77
  z72 := Try.sizeOf77
  v72 := Try.zeroValue77
  t75 := Try.underlying80
  a75 := Try.isAgg80
  z75 := Try.sizeOf80
  v75 := Try.zeroValue80
  t76 := Try.underlying81
  a76 := Try.isAgg81
  z76 := Try.sizeOf81
  v76 := Try.zeroValue81
  t109 := Try.underlying73
  a109 := Try.isAgg73
  z109 := Try.sizeOf73
  v109 := Try.zeroValue73
  t127 := Try.underlying103
  a127 := Try.isAgg103
  z127 := Try.sizeOf103
  v127 := Try.zeroValue103
  t146 := Try.underlying99
  a146 := Try.isAgg99
  z146 := Try.sizeOf99
  v146 := Try.zeroValue99
  t148 := Try.underlying101
  a148 := Try.isAgg101
  z148 := Try.sizeOf101
  v148 := Try.zeroValue101
  t164 := Try.underlying110
  a164 := Try.isAgg110
  z164 := Try.sizeOf110
  v164 := Try.zeroValue110 }
theorem repExtra : Go.Proofs.Builder.Extra Try.prog repRen := {
  sizeBuilder := by kernel_rfl
  liesBuilder := by kernel_rfl
  t5 := repLays.t5
  a5 := repLays.a5
  z5 := repLays.z5
  v5 := repLays.v5
  infoByte := by kernel_rfl
  cellsByte := by kernel_rfl
  sizeByte := by kernel_rfl
  neB5 := by decide }
theorem repeat_any (x : UInt8) (c : Nat) (hc : c ≤ 1000) (w : World) : Calls Try.prog 25 #[.string ⟨#[x]⟩, .int .i64 ((c : Nat) : Int)] w fun e w' => e = .returned (.string ⟨(List.replicate c x).toArray⟩) ∧ Below w.heap.size w w' := by
  have h := Go.Proofs.Any.strings_Repeat repLays repExtra ⟨#[x]⟩ c w (by omega) (by show 1 * c ≤ _; omega)
  refine Calls.mono (show Calls Try.prog 25 _ w _ from h) fun e w' ⟨he, hb⟩ => ⟨?_, hb⟩
  have e1 : Lib.repeatL (ByteArray.mk #[x]).data.toList c = List.replicate c x := by
    have := Lib.repeatL_replicate x 1 c
    rw [Nat.mul_one] at this
    exact this
  rw [he, e1]
end Go.Proofs.Yteggocgfaejmbaa

namespace Go.Proofs.Yteggocgfaejmbaa
open Go.RowKit

theorem upTo_any (x m : Int) (w : World) : Calls Try.prog 55 #[.int .i64 x, .int .i64 m] w fun e w' => e = .returned (.bool (decide (0 ≤ x) && decide (x ≤ m))) ∧ w' = w := by
  by_cases h0 : 0 ≤ x
  · have p1 : x ≥ 0 := h0
    rw [decide_eq_true h0]
    by_cases h1 : x ≤ m
    · rw [decide_eq_true h1]
      go_enter Try.func55, Try.ntmps55
      go_wp2_with fail
      go_ret
      exact ⟨rfl, rfl⟩
    · rw [decide_eq_false h1]
      go_enter Try.func55, Try.ntmps55
      go_wp2_with fail
      go_ret
      exact ⟨rfl, rfl⟩
  · have p1 : ¬ x ≥ 0 := h0
    rw [decide_eq_false h0]
    go_enter Try.func55, Try.ntmps55
    go_wp2_with fail
    go_ret
    exact ⟨rfl, rfl⟩

set_option maxRecDepth 100000 in
set_option maxHeartbeats 2000000 in
theorem ofItsKind_any (x : FI) (B : Nat → Prop) (u : Value) (w : World) (h : x.At B w u) : Calls Try.prog 56 #[u] w fun e w' => e = .returned (.bool (x.kindOk nameB)) ∧ Below w.heap.size w w' := by
  obtain ⟨z, K, pa, pn, pc, zo, wd, qt, rfl⟩ := h.form
  have hp := h.parts
  obtain ⟨W1, hW1⟩ : ∃ W1, W1 = w.alloc (.cells #[.string z, .int .u8 ((K : Nat) : Int), .slice pa pn pc, .string zo, .int .i64 wd, .int .i64 qt] 47) := ⟨_, rfl⟩
  have hb1 : Below w.heap.size w W1 := by rw [hW1]; exact (Below.refl _ w).alloc (Nat.le_refl _) _
  have hr1 : W1.heap[w.heap.size]? = some (.cells #[.string z, .int .u8 ((K : Nat) : Int), .slice pa pn pc, .string zo, .int .i64 wd, .int .i64 qt] 47 (0, 0)) := by rw [hW1]; exact heap_alloc_new w _
  obtain ⟨c0, c1, c2, c3, c4, c5⟩ := cells6 hr1
  have HB1 := hide hb1
  have HW1 := hide hW1
  have HKV : Hid (x.kindOk nameB = ((decide (K = 0) && x.over.isEmpty && decide (wd = 0)) || (decide (K = 1) && nameB x.over && decide (0 ≤ wd) && decide (wd ≤ 40)))) := by show _ = _; rw [hp.kd, hp.wd]; rfl
  have hze := str_empty x.over
  rw [← hp.ov] at hze
  have HNM : Hid (∀ W, Calls Try.prog 13 #[.string zo] W fun e w' => e = .returned (.bool (nameB x.over)) ∧ w' = W) := fun W => by rw [hp.ov]; exact fName_any x.over W
  generalize x.over.isEmpty = oe at *
  generalize nameB x.over = on at *
  clear h hp hb1 hr1 hW1
  go_enter Try.func56, Try.ntmps56
  go_upto_region 1 with fail
  rw [← unhide HW1]
  clear HW1
  by_cases k0 : K = 0
  · have g0 : (((K : Nat) : Int) == 0) = true := by rw [beq_iff_eq]; omega
    have HV : Hid (x.kindOk nameB = (oe && decide (wd = 0))) := by show _ = _; rw [unhide HKV, k0]; simp
    clear k0 HKV
    cases oe with
    | false =>
      go_wp2_with fail
      go_ret
      exact ⟨ret_bool (unhide HV).symm, unhide HB1⟩
    | true =>
      by_cases hw0 : wd = 0
      · have gw : (wd == 0) = true := beq_iff_eq.2 hw0
        have HW0 := hide hw0
        clear hw0
        go_wp2_with fail
        go_ret
        exact ⟨ret_bool (by rw [unhide HV, decide_eq_true (unhide HW0)]; rfl), unhide HB1⟩
      · have gw : (wd == 0) = false := beq_eq_false_iff_ne.2 hw0
        have HW0 := hide hw0
        clear hw0
        go_wp2_with fail
        go_ret
        exact ⟨ret_bool (by rw [unhide HV, decide_eq_false (unhide HW0)]; rfl), unhide HB1⟩
  have g0 : (((K : Nat) : Int) == 0) = false := by rw [beq_eq_false_iff_ne]; omega
  clear hze
  by_cases k1 : K = 1
  · have g1 : (((K : Nat) : Int) == 1) = true := by rw [beq_iff_eq]; omega
    have HV : Hid (x.kindOk nameB = (on && (decide (0 ≤ wd) && decide (wd ≤ 40)))) := by show _ = _; rw [unhide HKV, k1]; simp [Bool.and_assoc]
    clear k0 k1 HKV
    go_wp2_with fail
    refine (unhide HNM _).mono ?_
    rintro e w2 ⟨rfl, hw⟩
    rw [hw]
    clear hw w2
    cases on with
    | false =>
      go_wp2_with fail
      go_ret
      exact ⟨ret_bool (unhide HV).symm, unhide HB1⟩
    | true =>
      go_wp2_with fail
      refine (upTo_any wd 40 _).mono ?_
      rintro e w2 ⟨rfl, hw⟩
      rw [hw]
      clear hw w2
      go_wp2_with fail
      go_ret
      exact ⟨ret_bool (unhide HV).symm, unhide HB1⟩
  · have g1 : (((K : Nat) : Int) == 1) = false := by rw [beq_eq_false_iff_ne]; omega
    have HV : Hid (x.kindOk nameB = false) := by show _ = _; rw [unhide HKV, decide_eq_false k0, decide_eq_false k1]; simp
    clear k0 k1 HKV
    go_wp2_with fail
    go_ret
    exact ⟨ret_bool (unhide HV).symm, unhide HB1⟩

/-- all[string]$1 over Name. -/
theorem allStr1_any (s : List UInt8) (g : Nat) (w : World) (hg : w.cell? ⟨g, 0, none⟩ = some (.func (.func 13) #[] #[])) : Calls Try.prog 73 #[.string ⟨s.toArray⟩, .pointer (some ⟨g, 0, none⟩)] w fun e w' => e = .returned (.bool (!nameB s)) ∧ w' = w := by
  have HN := hide (fName_any s)
  generalize (⟨s.toArray⟩ : ByteArray) = z at *
  generalize nameB s = b at *
  go_enter Try.func73, Try.ntmps73
  go_wp2_with fail
  refine (unhide HN _).mono ?_
  rintro e w2 ⟨rfl, hw⟩
  rw [hw]
  clear hw w2
  go_wp2_with fail
  go_ret
  exact ⟨rfl, rfl⟩

theorem allL_take_succ {α : Type} {p : α → Bool} {s : List α} {j : Nat} (h : j < s.length) : (s.take (j + 1)).all p = ((s.take j).all p && p (s[j]'h)) := by
  rw [List.take_succ_eq_append_getElem h, List.all_append]
  simp
theorem allL_false {α : Type} {p : α → Bool} {s : List α} {j : Nat} (h : j < s.length) (hp : p (s[j]'h) = false) : s.all p = false := by
  rw [Bool.eq_false_iff]
  intro e
  have := List.all_eq_true.1 e _ (List.getElem_mem h)
  rw [hp] at this
  cases this

set_option maxRecDepth 100000 in
set_option maxHeartbeats 2000000 in
theorem indexStr_any (l : List (List UInt8)) (B : Nat → Prop) (g n c : Nat) (a : Option Addr) (w : World) (hn : n = l.length) (hn6 : n ≤ 1000000) (hS : StrsAt B w a l) (hg : w.cell? ⟨g, 0, none⟩ = some (.func (.func 13) #[] #[])) :
    Calls Try.prog 82 #[.slice a n c, .func (.func 73) #[] #[.pointer (some ⟨g, 0, none⟩)]] w fun e w' => (∃ r : Int, e = .returned (.int .i64 r) ∧ decide (r ≥ 0) = !l.all nameB) ∧ w' = w := by
  have HN := hide hn
  have HS := hide hS
  have HG := hide hg
  clear hn hS hg
  go_enter Try.func82, Try.ntmps82
  go_wp2_with fail
  go_loopw [8] (fun k W => ∃ j : Nat, j ≤ n ∧ k = .int .i64 ((j : Nat) : Int) ∧ (l.take j).all nameB = true ∧ W = w) (fun k _ => n - (intOf k).toNat)
  case atStart => exact ⟨0, by omega, rfl, rfl, rfl⟩
  case round =>
    obtain ⟨j, hj, rfl, ha, hw⟩ := hrel
    rw [hw]
    clear hw
    have HA := hide ha
    clear ha
    by_cases hlt : j < n
    · have hji : ((j : Nat) : Int) < ((n : Nat) : Int) := by omega
      have hjl : j < l.length := by have := unhide HN; omega
      obtain ⟨b, o, rfl, _, hc, _⟩ := unhide HS j hjl
      have HTS := hide (allL_take_succ (p := nameB) hjl)
      have HTF := hide (allL_false (p := nameB) hjl)
      have HC := hide (allStr1_any l[j] g w (unhide HG))
      generalize (⟨l[j].toArray⟩ : ByteArray) = z at *
      generalize nameB l[j] = q at *
      go_wp2_with fail
      refine (unhide HC).mono ?_
      rintro e w2 ⟨rfl, hw⟩
      rw [hw]
      clear hw w2
      cases q with
      | false =>
        have HF := hide (unhide HTF rfl)
        go_wp2_with fail
        go_ret
        exact ⟨⟨_, rfl, by rw [unhide HF, decide_eq_true (show ((j : Nat) : Int) ≥ 0 by omega)]; rfl⟩, rfl⟩
      | true =>
        have HT : Hid ((l.take (j + 1)).all nameB = true) := by show _ = _; rw [unhide HTS, unhide HA]; rfl
        go_wp2_with fail
        exact ⟨⟨j + 1, by omega, by go_num, unhide HT, trivial⟩, by simp [intOf]; omega⟩
    · have e : j = n := by omega
      have hji : ¬ ((j : Nat) : Int) < ((n : Nat) : Int) := by omega
      have HF : Hid (l.all nameB = true) := by
        show _ = _
        have h := unhide HA
        rw [List.take_of_length_le (by have := unhide HN; omega)] at h
        exact h
      clear e
      go_wp2_with fail
      go_ret
      exact ⟨⟨-1, rfl, by rw [unhide HF]; rfl⟩, rfl⟩

set_option maxHeartbeats 1000000 in
theorem containsStr_any (l : List (List UInt8)) (B : Nat → Prop) (g n c : Nat) (a : Option Addr) (w : World) (hn : n = l.length) (hn6 : n ≤ 1000000) (hS : StrsAt B w a l) (hg : w.cell? ⟨g, 0, none⟩ = some (.func (.func 13) #[] #[])) :
    Calls Try.prog 72 #[.slice a n c, .func (.func 73) #[] #[.pointer (some ⟨g, 0, none⟩)]] w fun e w' => e = .returned (.bool (!l.all nameB)) ∧ w' = w := by
  have HC := hide (indexStr_any l B g n c a w hn hn6 hS hg)
  clear hn hS hg
  go_enter Try.func72, Try.ntmps72
  go_wp2_with fail
  refine (unhide HC).mono ?_
  rintro e w2 ⟨⟨r, rfl, hr⟩, hw⟩
  rw [hw]
  clear hw w2
  have HR := hide hr
  clear hr
  go_wp2_with fail
  go_ret
  exact ⟨ret_bool (unhide HR), rfl⟩

set_option maxHeartbeats 1000000 in
theorem allStr_any (l : List (List UInt8)) (B : Nat → Prop) (n c : Nat) (a : Option Addr) (w : World) (hn : n = l.length) (hn6 : n ≤ 1000000) (hS : StrsAt B w a l) :
    Calls Try.prog 54 #[.slice a n c, .func (.func 13) #[] #[]] w fun e w' => e = .returned (.bool (l.all nameB)) ∧ Below w.heap.size w w' := by
  obtain ⟨W1, hW1⟩ : ∃ W1, W1 = w.alloc (.cells #[.func (.func 13) #[] #[]] 29) := ⟨_, rfl⟩
  have hb1 : Below w.heap.size w W1 := by rw [hW1]; exact (Below.refl _ w).alloc (Nat.le_refl _) _
  have hr1 : W1.heap[w.heap.size]? = some (.cells #[.func (.func 13) #[] #[]] 29 (0, 0)) := by rw [hW1]; exact heap_alloc_new w _
  have HC := hide (containsStr_any l B w.heap.size n c a W1 hn hn6 (hS.kept (fun k _ hk => hb1.block k hk) (fun _ h _ => h)) (cell_of_row _ _ 0 _ _ _ hr1))
  have HB1 := hide hb1
  have HW1 := hide hW1
  clear hn hS hb1 hr1 hW1
  go_enter Try.func54, Try.ntmps54
  go_upto_region 1 with fail
  rw [← unhide HW1]
  clear HW1
  go_wp2_with fail
  refine (unhide HC).mono ?_
  rintro e w2 ⟨rfl, hw⟩
  rw [hw]
  clear hw w2
  go_wp2_with fail
  go_ret
  exact ⟨rfl, unhide HB1⟩
end Go.Proofs.Yteggocgfaejmbaa

namespace Go.Proofs.Yteggocgfaejmbaa
open Go.RowKit

theorem FI.right_parts (x : FI) : x.right = (nameB x.name && (decide (x.after.length ≤ 20) && (x.after.all nameB && ((decide (0 ≤ x.quota) && decide (x.quota ≤ 400)) && x.kindOk nameB)))) := by
  unfold FI.right FI.okP
  simp only [Bool.and_assoc]

set_option maxRecDepth 100000 in
set_option maxHeartbeats 2000000 in
theorem rightItem_any (x : FI) (B : Nat → Prop) (u : Value) (w : World) (h : x.At B w u) : Calls Try.prog 31 #[u] w fun e w' => e = .returned (.bool x.right) ∧ Below w.heap.size w w' := by
  have HA := hide h
  obtain ⟨z, K, pa, pn, pc, zo, wd, qt, rfl⟩ := h.form
  have hp := h.parts
  obtain ⟨W1, hW1⟩ : ∃ W1, W1 = w.alloc (.cells #[.string z, .int .u8 ((K : Nat) : Int), .slice pa pn pc, .string zo, .int .i64 wd, .int .i64 qt] 47) := ⟨_, rfl⟩
  have hb1 : Below w.heap.size w W1 := by rw [hW1]; exact (Below.refl _ w).alloc (Nat.le_refl _) _
  have hr1 : W1.heap[w.heap.size]? = some (.cells #[.string z, .int .u8 ((K : Nat) : Int), .slice pa pn pc, .string zo, .int .i64 wd, .int .i64 qt] 47 (0, 0)) := by rw [hW1]; exact heap_alloc_new w _
  have HK : Hid (∀ X, Below W1.heap.size W1 X → X.cell? ⟨w.heap.size, 0, none⟩ = some (.string z) ∧ X.cell? ⟨w.heap.size, 1, none⟩ = some (.int .u8 ((K : Nat) : Int)) ∧ X.cell? ⟨w.heap.size, 2, none⟩ = some (.slice pa pn pc) ∧ X.cell? ⟨w.heap.size, 3, none⟩ = some (.string zo) ∧ X.cell? ⟨w.heap.size, 4, none⟩ = some (.int .i64 wd) ∧ X.cell? ⟨w.heap.size, 5, none⟩ = some (.int .i64 qt)) := fun X hX => cells6 ((hX.block _ (Array.getElem?_eq_some_iff.1 hr1).1).trans hr1)
  have HB1 := hide hb1
  have HW1 := hide hW1
  have HV : Hid (x.right = (nameB x.name && (decide (pn ≤ 20) && (x.after.all nameB && ((decide (0 ≤ qt) && decide (qt ≤ 400)) && x.kindOk nameB))))) := by show _ = _; rw [FI.right_parts, hp.an, hp.qt]
  have HNM : Hid (∀ W, Calls Try.prog 13 #[.string z] W fun e w' => e = .returned (.bool (nameB x.name)) ∧ w' = W) := fun W => by rw [hp.nm]; exact fName_any x.name W
  have HAF : Hid (pn ≤ 20 → ∀ W, Below w.heap.size w W → Calls Try.prog 54 #[.slice pa pn pc, .func (.func 13) #[] #[]] W fun e w' => e = .returned (.bool (x.after.all nameB)) ∧ Below W.heap.size W w') := fun h20 W hW => allStr_any x.after B pn pc pa W hp.an (by omega) (hp.strs.kept (fun k _ hk => hW.block k hk) (fun _ h _ => h))
  obtain ⟨a0, a1, a2, a3, a4, a5⟩ := unhide HK W1 (Below.refl _ _)
  generalize nameB x.name = bn at *
  generalize x.after.all nameB = ba at *
  clear h hp hb1 hr1 hW1
  go_enter Try.func31, Try.ntmps31
  go_upto_region 1 with fail
  rw [← unhide HW1]
  clear HW1
  go_wp2_with fail
  refine (unhide HNM _).mono ?_
  rintro e w2 ⟨rfl, hw⟩
  rw [hw]
  clear hw w2
  cases bn with
  | false =>
    go_wp2_with fail
    go_ret
    exact ⟨ret_bool (unhide HV).symm, unhide HB1⟩
  | true =>
    by_cases h20 : pn ≤ 20
    case neg =>
      have g20 : ¬ ((pn : Nat) : Int) ≤ 20 := by omega
      have HV2 : Hid (x.right = false) := by show _ = _; rw [unhide HV, decide_eq_false h20]; simp
      clear h20
      go_wp2_with fail
      go_ret
      exact ⟨ret_bool (unhide HV2).symm, unhide HB1⟩
    have g20 : ((pn : Nat) : Int) ≤ 20 := by omega
    have HV2 : Hid (x.right = (ba && ((decide (0 ≤ qt) && decide (qt ≤ 400)) && x.kindOk nameB))) := by show _ = _; rw [unhide HV, decide_eq_true h20]; simp
    have HAF2 := hide (unhide HAF h20)
    clear h20 HV HAF
    go_wp2_with fail
    refine (unhide HAF2 _ (unhide HB1)).mono ?_
    rintro e w2 ⟨rfl, hb2⟩
    have HB2 := hide ((unhide HB1).trans (hb2.mono (unhide HB1).size))
    clear a0 a1 a2 a3 a4 a5
    obtain ⟨a0, a1, a2, a3, a4, a5⟩ := unhide HK w2 hb2
    clear hb2 HK
    cases ba with
    | false =>
      go_wp2_with fail
      go_ret
      exact ⟨ret_bool (unhide HV2).symm, unhide HB2⟩
    | true =>
      go_wp2_with fail
      refine (upTo_any qt 400 _).mono ?_
      rintro e w3 ⟨rfl, hw⟩
      rw [hw]
      clear hw w3
      generalize (decide (0 ≤ qt) && decide (qt ≤ 400)) = bq at *
      cases bq with
      | false =>
        go_wp2_with fail
        go_ret
        exact ⟨ret_bool (unhide HV2).symm, unhide HB2⟩
      | true =>
        go_wp2_with fail
        refine (ofItsKind_any x B _ _ ((unhide HA).later (unhide HB2))).mono ?_
        rintro e w4 ⟨rfl, hb4⟩
        have HB4 := hide ((unhide HB2).trans (hb4.mono (unhide HB2).size))
        clear hb4 a0 a1 a2 a3 a4 a5
        go_wp2_with fail
        go_ret
        exact ⟨ret_bool (unhide HV2).symm, unhide HB4⟩

set_option maxHeartbeats 1000000 in
/-- all[api.Item]$1 over rightItem. -/
theorem allItem1_any (x : FI) (B : Nat → Prop) (u : Value) (g : Nat) (w : World) (h : x.At B w u) (hg : w.cell? ⟨g, 0, none⟩ = some (.func (.func 31) #[] #[])) : Calls Try.prog 53 #[u, .pointer (some ⟨g, 0, none⟩)] w fun e w' => e = .returned (.bool (!x.right)) ∧ Below w.heap.size w w' := by
  have HA := hide h
  obtain ⟨z, K, pa, pn, pc, zo, wd, qt, rfl⟩ := h.form
  obtain ⟨W1, hW1⟩ : ∃ W1, W1 = w.alloc (.cells #[.string z, .int .u8 ((K : Nat) : Int), .slice pa pn pc, .string zo, .int .i64 wd, .int .i64 qt] 47) := ⟨_, rfl⟩
  have hb1 : Below w.heap.size w W1 := by rw [hW1]; exact (Below.refl _ w).alloc (Nat.le_refl _) _
  have hr1 : W1.heap[w.heap.size]? = some (.cells #[.string z, .int .u8 ((K : Nat) : Int), .slice pa pn pc, .string zo, .int .i64 wd, .int .i64 qt] 47 (0, 0)) := by rw [hW1]; exact heap_alloc_new w _
  obtain ⟨a0, a1, a2, a3, a4, a5⟩ := cells6 hr1
  have g0 := (hb1.cell (World.block_lt_of_cell? _ _ hg)).trans hg
  have HB1 := hide hb1
  have HW1 := hide hW1
  clear h hb1 hr1 hW1 hg
  go_enter Try.func53, Try.ntmps53
  go_upto_region 1 with fail
  rw [← unhide HW1]
  clear HW1
  go_wp2_with fail
  refine (rightItem_any x B _ _ ((unhide HA).later (unhide HB1))).mono ?_
  rintro e w4 ⟨rfl, hb4⟩
  have HB4 := hide ((unhide HB1).trans (hb4.mono (unhide HB1).size))
  clear hb4 a0 a1 a2 a3 a4 a5 g0
  go_wp2_with fail
  go_ret
  exact ⟨rfl, unhide HB4⟩

set_option maxRecDepth 100000 in
set_option maxHeartbeats 2000000 in
theorem indexItem_any (l : List FI) (B : Nat → Prop) (g n c : Nat) (a : Option Addr) (w : World) (hn : n = l.length) (hn6 : n ≤ 1000000) (hS : ItemsAt B w a l) (hg : w.cell? ⟨g, 0, none⟩ = some (.func (.func 31) #[] #[])) :
    Calls Try.prog 71 #[.slice a n c, .func (.func 53) #[] #[.pointer (some ⟨g, 0, none⟩)]] w fun e w' => (∃ r : Int, e = .returned (.int .i64 r) ∧ decide (r ≥ 0) = !l.all FI.right) ∧ Below w.heap.size w w' := by
  have HN := hide hn
  have HS := hide hS
  have HG : Hid (∀ X, Below w.heap.size w X → X.cell? ⟨g, 0, none⟩ = some (.func (.func 31) #[] #[])) := fun X hX => (hX.cell (World.block_lt_of_cell? _ _ hg)).trans hg
  clear hn hS hg
  go_enter Try.func71, Try.ntmps71
  go_wp2_with fail
  go_loopw [8] (fun k W => ∃ j : Nat, j ≤ n ∧ k = .int .i64 ((j : Nat) : Int) ∧ (l.take j).all FI.right = true ∧ Below w.heap.size w W) (fun k _ => n - (intOf k).toNat)
  case atStart => exact ⟨0, by omega, rfl, rfl, Below.refl _ _⟩
  case round =>
    obtain ⟨j, hj, rfl, ha, hb⟩ := hrel
    have HB := hide hb
    have HA := hide ha
    clear ha
    by_cases hlt : j < n
    · have hji : ((j : Nat) : Int) < ((n : Nat) : Int) := by omega
      have hjl : j < l.length := by have := unhide HN; omega
      obtain ⟨b, o, z, K, pa, pn, pc, zo, wd, qt, rfl, _, c0, c1, c2, c3, c4, c5, hx⟩ := (unhide HS j hjl).out
      have hk : ∀ {p : Addr} {x : Value}, w.cell? p = some x → wr.cell? p = some x := fun hx => (hb.cell (World.block_lt_of_cell? _ _ hx)).trans hx
      have d0 := hk c0
      have d1 := hk c1
      have d2 := hk c2
      have d3 := hk c3
      have d4 := hk c4
      have d5 := hk c5
      have HTS := hide (allL_take_succ (p := FI.right) hjl)
      have HTF := hide (allL_false (p := FI.right) hjl)
      have HC := hide (allItem1_any l[j] B _ g wr (hx.later hb) (unhide HG wr hb))
      generalize FI.right l[j] = q at *
      clear c0 c1 c2 c3 c4 c5 hx hk hb
      go_wp2_with fail
      refine (unhide HC).mono ?_
      rintro e w2 ⟨rfl, hb2⟩
      have HB2 := hide ((unhide HB).trans (hb2.mono (unhide HB).size))
      clear hb2 d0 d1 d2 d3 d4 d5
      cases q with
      | false =>
        have HF := hide (unhide HTF rfl)
        go_wp2_with fail
        go_ret
        exact ⟨⟨_, rfl, by rw [unhide HF, decide_eq_true (show ((j : Nat) : Int) ≥ 0 by omega)]; rfl⟩, unhide HB2⟩
      | true =>
        have HT : Hid ((l.take (j + 1)).all FI.right = true) := by show _ = _; rw [unhide HTS, unhide HA]; rfl
        go_wp2_with fail
        exact ⟨⟨j + 1, by omega, by go_num, unhide HT, unhide HB2⟩, by simp [intOf]; omega⟩
    · have e : j = n := by omega
      have hji : ¬ ((j : Nat) : Int) < ((n : Nat) : Int) := by omega
      have HF : Hid (l.all FI.right = true) := by
        show _ = _
        have h := unhide HA
        rw [List.take_of_length_le (by have := unhide HN; omega)] at h
        exact h
      clear e hb
      go_wp2_with fail
      go_ret
      exact ⟨⟨-1, rfl, by rw [unhide HF]; rfl⟩, unhide HB⟩

set_option maxHeartbeats 1000000 in
theorem containsItem_any (l : List FI) (B : Nat → Prop) (g n c : Nat) (a : Option Addr) (w : World) (hn : n = l.length) (hn6 : n ≤ 1000000) (hS : ItemsAt B w a l) (hg : w.cell? ⟨g, 0, none⟩ = some (.func (.func 31) #[] #[])) :
    Calls Try.prog 52 #[.slice a n c, .func (.func 53) #[] #[.pointer (some ⟨g, 0, none⟩)]] w fun e w' => e = .returned (.bool (!l.all FI.right)) ∧ Below w.heap.size w w' := by
  have HC := hide (indexItem_any l B g n c a w hn hn6 hS hg)
  clear hn hS hg
  go_enter Try.func52, Try.ntmps52
  go_wp2_with fail
  refine (unhide HC).mono ?_
  rintro e w2 ⟨⟨r, rfl, hr⟩, hb⟩
  have HB := hide hb
  have HR := hide hr
  clear hr hb
  go_wp2_with fail
  go_ret
  exact ⟨ret_bool (unhide HR), unhide HB⟩

set_option maxHeartbeats 1000000 in
theorem allItem_any (l : List FI) (B : Nat → Prop) (n c : Nat) (a : Option Addr) (w : World) (hn : n = l.length) (hn6 : n ≤ 1000000) (hS : ItemsAt B w a l) :
    Calls Try.prog 30 #[.slice a n c, .func (.func 31) #[] #[]] w fun e w' => e = .returned (.bool (l.all FI.right)) ∧ Below w.heap.size w w' := by
  obtain ⟨W1, hW1⟩ : ∃ W1, W1 = w.alloc (.cells #[.func (.func 31) #[] #[]] 52) := ⟨_, rfl⟩
  have hb1 : Below w.heap.size w W1 := by rw [hW1]; exact (Below.refl _ w).alloc (Nat.le_refl _) _
  have hr1 : W1.heap[w.heap.size]? = some (.cells #[.func (.func 31) #[] #[]] 52 (0, 0)) := by rw [hW1]; exact heap_alloc_new w _
  have HC := hide (containsItem_any l B w.heap.size n c a W1 hn hn6 (hS.later hb1) (cell_of_row _ _ 0 _ _ _ hr1))
  have HB1 := hide hb1
  have HW1 := hide hW1
  clear hn hS hb1 hr1 hW1
  go_enter Try.func30, Try.ntmps30
  go_upto_region 1 with fail
  rw [← unhide HW1]
  clear HW1
  go_wp2_with fail
  refine (unhide HC).mono ?_
  rintro e w2 ⟨rfl, hb2⟩
  have HB2 := hide ((unhide HB1).trans (hb2.mono (unhide HB1).size))
  clear hb2
  go_wp2_with fail
  go_ret
  exact ⟨rfl, unhide HB2⟩

set_option maxHeartbeats 1000000 in
theorem fRight_any (l : List FI) (B : Nat → Prop) (u : Value) (w : World) (h : FragAt B w l u) : Calls Try.prog 15 #[u] w fun e w' => e = .returned (.bool (rightF l)) ∧ Below w.heap.size w w' := by
  obtain ⟨a, c, rfl, hlc, hcm, hS⟩ := h
  obtain ⟨n, hn⟩ : ∃ n, n = l.length := ⟨_, rfl⟩
  rw [← hn]
  have HV : Hid (rightF l = (decide (n ≤ 40) && l.all FI.right)) := by show _ = _; rw [hn]; rfl
  by_cases h40 : n ≤ 40
  · have g40 : ((n : Nat) : Int) ≤ 40 := by omega
    have HC := hide (allItem_any l B n c a w hn (by omega) hS)
    rw [decide_eq_true h40] at HV
    clear hn hS hlc h40
    go_enter Try.func15, Try.ntmps15
    go_wp2_with fail
    refine (unhide HC).mono ?_
    rintro e w2 ⟨rfl, hb2⟩
    have HB2 := hide hb2
    clear hb2
    go_wp2_with fail
    go_ret
    exact ⟨ret_bool (unhide HV).symm, unhide HB2⟩
  · have g40 : ¬ ((n : Nat) : Int) ≤ 40 := by omega
    rw [decide_eq_false h40] at HV
    have HB := hide (Below.refl w.heap.size w)
    clear hn hS hlc h40
    go_enter Try.func15, Try.ntmps15
    go_wp2_with fail
    go_ret
    exact ⟨ret_bool (unhide HV).symm, unhide HB⟩
end Go.Proofs.Yteggocgfaejmbaa

namespace Go.Proofs.Yteggocgfaejmbaa
open Go.RowKit

/-- But for the row r all that was there is as it was; the row goes on in its block, or in a new one. -/
structure GR (w : World) (r : Value) (w' : World) (r' : Value) : Prop where
  size : w.heap.size ≤ w'.heap.size
  block : ∀ k, k < w.heap.size → r.ownBlock ≠ some k → w'.heap[k]? = w.heap[k]?
  blk : r'.ownBlock = r.ownBlock ∨ ∃ k, r'.ownBlock = some k ∧ w.heap.size ≤ k
theorem GR.refl (w : World) (r : Value) : GR w r w r := ⟨Nat.le_refl _, fun _ _ _ => rfl, .inl rfl⟩
theorem GR.ne {w w' : World} {r r' : Value} (h : GR w r w' r') {k : Nat} (hk : k < w.heap.size) (hn : r.ownBlock ≠ some k) : r'.ownBlock ≠ some k := fun e => by
  rcases h.blk with e2 | ⟨k', e2, hle⟩
  · rw [e2] at e; exact hn e
  · rw [e2] at e; cases e; omega
theorem GR.trans {w w1 w2 : World} {r r1 r2 : Value} (h : GR w r w1 r1) (h' : GR w1 r1 w2 r2) : GR w r w2 r2 := by
  refine ⟨Nat.le_trans h.size h'.size, fun k hk hn => ?_, ?_⟩
  · rw [h'.block k (Nat.lt_of_lt_of_le hk h.size) (h.ne hk hn), h.block k hk hn]
  · rcases h'.blk with e | ⟨k, e, hle⟩
    · rw [e]; exact h.blk
    · exact .inr ⟨k, e, Nat.le_trans h.size hle⟩
theorem GR.later {w w1 w2 : World} {r r1 : Value} (h : GR w r w1 r1) (hb : Below w1.heap.size w1 w2) : GR w r w2 r1 :=
  ⟨Nat.le_trans h.size hb.size, fun k hk hn => (hb.block k (Nat.lt_of_lt_of_le hk h.size)).trans (h.block k hk hn), h.blk⟩
theorem GR.of {w w' : World} {r r' : Value} (r2 : w.grownBy w' r.ownBlock) (r3 : r'.ownBlock = r.ownBlock ∨ ∃ k, r'.ownBlock = some k ∧ w.heap.size ≤ k) : GR w r w' r' :=
  ⟨r2.size, fun k hk hn => r2.block k hk (fun e => hn e.symm), r3⟩
/-- A row that is put behind: what is told. -/
def PutM (w0 : World) (r : Value) (w : World) (cs : List UInt8) (e : Ending) (w' : World) : Prop := ∃ a n c, e = .returned (.slice a n c) ∧ Own w0 (.slice a n c) cs w' ∧ GR w r w' (.slice a n c)

theorem own_formS {w0 w : World} {r : Value} {bs : List UInt8} (h : Own w0 r bs w) : ∃ a c, r = .slice a bs.length c ∧ bs.length ≤ c := h.fresh.1.1.form

theorem numNilF_any (n : Int) (hn : InR n) (w : World) : Calls Try.prog 69 #[.slice none 0 0, .int .i64 n] w fun e w' => ∃ v, e = .returned v ∧ Own w v (numB n) w' :=
  (wNum_any _ [] n hn w ((Own.start w).fresh.1.1) (by simp)).mono fun e w' h => by simpa using h
theorem textNilF_any (s : List UInt8) (hs : s.length ≤ 1048576) (w : World) : Calls Try.prog 70 #[.slice none 0 0, .string ⟨s.toArray⟩] w fun e w' => ∃ v, e = .returned v ∧ Own w v (textB s) w' :=
  (wText_any _ [] s w ((Own.start w).fresh.1.1) (by simp) hs).mono fun e w' h => by simpa using h

set_option maxRecDepth 100000 in
set_option maxHeartbeats 1000000 in
theorem putNumber_any (w0 w : World) (r : Value) (pre : List UInt8) (n : Int) (hn : InR n) (hO : Own w0 r pre w) (hl : pre.length ≤ 1000000) : Calls Try.prog 49 #[r, .int .i64 n] w (PutM w0 r w (pre ++ numB n)) := by
  obtain ⟨ti, hti, hz0, hz1, hz2⟩ := infoByte
  have HO := hide hO
  have HC := hide (numNilF_any n hn)
  have HL : Hid (pre.length + (numB n).length ≤ 1000010) := by show _ ≤ _; have := numB_ten hn; omega
  obtain ⟨a, c, rfl, -⟩ := own_formS hO
  obtain ⟨m, hm⟩ : ∃ m, m = pre.length := ⟨_, rfl⟩
  rw [← hm] at HO ⊢
  clear hO hn hl hm
  go_enter Try.func49, Try.ntmps49
  go_wp2_with fail
  refine (unhide HC _).mono ?_
  rintro e w2 ⟨r2, rfl, hO2⟩
  have HO2 := hide ((unhide HO).later hO2.bb)
  have HG2 := hide ((GR.refl w (.slice a m c)).later hO2.bb)
  have HB2 := hide hO2.fresh.1.1
  clear hO2
  go_wp2_with (at_builtin; refine wpList_append_bytes _ rfl _ _ 23 rfl 5 ti (.int .u8 0) Try.underlying23 hti hz0 hz1 hz2 rfl _ pre rfl (unhide HO2).own _ (numB n) rfl (unhide HB2) (by have := unhide HL; omega) ?_)
  rintro v' w4 r1 r2 r3
  have hO4 := (unhide HO2).grown (cs := pre ++ numB n) (by simpa using r1) r2 r3
  have HG4 := hide ((unhide HG2).trans (GR.of r2 r3))
  obtain ⟨a4, c4, rfl, -⟩ := own_formS hO4
  have HO4 := hide hO4
  clear r1 r2 r3 hO4
  go_wp2_with fail
  go_ret
  exact ⟨a4, _, c4, rfl, unhide HO4, unhide HG4⟩

set_option maxRecDepth 100000 in
set_option maxHeartbeats 1000000 in
theorem putText_any (w0 w : World) (r : Value) (pre s : List UInt8) (hs : s.length ≤ 1000000) (hO : Own w0 r pre w) (hl : pre.length ≤ 1000000) : Calls Try.prog 50 #[r, .string ⟨s.toArray⟩] w (PutM w0 r w (pre ++ textB s)) := by
  obtain ⟨ti, hti, hz0, hz1, hz2⟩ := infoByte
  have HO := hide hO
  have HC := hide (textNilF_any s (by omega))
  have HL : Hid (pre.length + (textB s).length ≤ 3000010) := by show _ ≤ _; have := textB_le hs (by omega); omega
  obtain ⟨a, c, rfl, -⟩ := own_formS hO
  obtain ⟨m, hm⟩ : ∃ m, m = pre.length := ⟨_, rfl⟩
  rw [← hm] at HO ⊢
  generalize (⟨s.toArray⟩ : ByteArray) = z at *
  generalize textB s = sb at *
  clear hO hs hl hm
  go_enter Try.func50, Try.ntmps50
  go_wp2_with fail
  refine (unhide HC _).mono ?_
  rintro e w2 ⟨r2, rfl, hO2⟩
  have HO2 := hide ((unhide HO).later hO2.bb)
  have HG2 := hide ((GR.refl w (.slice a m c)).later hO2.bb)
  have HB2 := hide hO2.fresh.1.1
  clear hO2
  go_wp2_with (at_builtin; refine wpList_append_bytes _ rfl _ _ 23 rfl 5 ti (.int .u8 0) Try.underlying23 hti hz0 hz1 hz2 rfl _ pre rfl (unhide HO2).own _ sb rfl (unhide HB2) (by have := unhide HL; omega) ?_)
  rintro v' w4 r1 r2 r3
  have hO4 := (unhide HO2).grown (cs := pre ++ sb) (by simpa using r1) r2 r3
  have HG4 := hide ((unhide HG2).trans (GR.of r2 r3))
  obtain ⟨a4, c4, rfl, -⟩ := own_formS hO4
  have HO4 := hide hO4
  clear r1 r2 r3 hO4
  go_wp2_with fail
  go_ret
  exact ⟨a4, _, c4, rfl, unhide HO4, unhide HG4⟩

theorem flat_take_succ {α : Type} (f : α → List UInt8) {l : List α} {j : Nat} (h : j < l.length) : (l.take (j + 1)).flatMap f = (l.take j).flatMap f ++ f (l[j]'h) := by
  rw [List.take_succ_eq_append_getElem h, List.flatMap_append]
  simp
theorem flat_take_le {α : Type} (f : α → List UInt8) (l : List α) (j : Nat) : ((l.take j).flatMap f).length ≤ (l.flatMap f).length := by
  have : l.flatMap f = (l.take j).flatMap f ++ (l.drop j).flatMap f := by rw [← List.flatMap_append, List.take_append_drop]
  rw [this, List.length_append]
  omega

set_option maxRecDepth 100000 in
set_option maxHeartbeats 1000000 in
theorem putStrs_any (l : List (List UInt8)) (B : Nat → Prop) (w0 w : World) (r : Value) (pre : List UInt8) (n c : Nat) (a : Option Addr) (hn : n = l.length) (hn6 : n ≤ 1000000) (hS : StrsAt B w0 a l) (hO : Own w0 r pre w) (hl : pre.length + (numB ((l.length : Nat) : Int)).length + (l.flatMap textB).length ≤ 1000000) :
    Calls Try.prog 51 #[r, .slice a n c, .func (.func 50) #[] #[]] w (PutM w0 r w (pre ++ (numB ((l.length : Nat) : Int) ++ l.flatMap textB))) := by
  have HL : Hid (∀ j, (pre ++ numB ((n : Nat) : Int) ++ (l.take j).flatMap textB).length ≤ 1000000) := fun j => by
    have := flat_take_le textB l j
    rw [List.length_append, List.length_append, hn]
    omega
  have HNU := hide (putNumber_any w0 w r pre ((n : Nat) : Int) (by unfold InR; omega) hO (by omega))
  have HN := hide hn
  have HS := hide hS
  have HSL : Hid (∀ j (h : j < l.length), (l[j]'h).length ≤ 1000000) := fun j h => by
    have h1 := flat_take_succ textB h
    have h2 := flat_take_le textB l (j + 1)
    rw [h1, List.length_append, textB, List.length_append] at h2
    omega
  have HCS : Hid (pre ++ (numB ((l.length : Nat) : Int) ++ l.flatMap textB) = pre ++ numB ((n : Nat) : Int) ++ (l.take n).flatMap textB) := by show _ = _; rw [hn, List.take_length, List.append_assoc]
  obtain ⟨ra, rc, rfl, -⟩ := own_formS hO
  obtain ⟨m, hm⟩ : ∃ m, m = pre.length := ⟨_, rfl⟩
  rw [← hm] at HNU ⊢
  clear hn hS hO hl hm
  go_enter Try.func51, Try.ntmps51
  go_wp2_with fail
  refine (unhide HNU).mono ?_
  rintro e w2 ⟨a2, n2, c2, rfl, hO2, hG2⟩
  have HO2 := hide hO2
  have HG2 := hide hG2
  clear hO2 hG2
  go_wp2_with fail
  go_loopw [0, 15] (fun v k W => ∃ (j : Nat) (a3 : Option Addr) (n3 c3 : Nat), j ≤ n ∧ k = .int .i64 ((j : Nat) : Int) ∧ v = .slice a3 n3 c3 ∧ Own w0 (.slice a3 n3 c3) (pre ++ numB ((n : Nat) : Int) ++ (l.take j).flatMap textB) W ∧ GR w (.slice ra m rc) W (.slice a3 n3 c3)) (fun _ k _ => n - (intOf k).toNat)
  case atStart => exact ⟨0, a2, n2, c2, by omega, rfl, rfl, by simpa using unhide HO2, unhide HG2⟩
  case round =>
    obtain ⟨j, a3, n3, c3, hj, rfl, rfl, hO3, hG3⟩ := hrel
    have HO3 := hide hO3
    have HG3 := hide hG3
    by_cases hlt : j < n
    · have hji : ((j : Nat) : Int) < ((n : Nat) : Int) := by omega
      have hjl : j < l.length := by have := unhide HN; omega
      obtain ⟨b, o, rfl, _, hc, _⟩ := unhide HS j hjl
      have hc3 := (hO3.bb.cell (World.block_lt_of_cell? _ _ hc)).trans hc
      have HTS := hide (flat_take_succ textB hjl)
      have HC := hide (putText_any w0 wr (.slice a3 n3 c3) _ l[j] (unhide HSL j hjl) hO3 (unhide HL j))
      clear hc hO3 hG3
      generalize (⟨l[j].toArray⟩ : ByteArray) = z at *
      generalize textB l[j] = sb at *
      go_wp2_with fail
      refine (unhide HC).mono ?_
      rintro e w5 ⟨a5, n5, c5, rfl, hO5, hG5⟩
      have HO5 : Hid (Own w0 (.slice a5 n5 c5) (pre ++ numB ((n : Nat) : Int) ++ (l.take (j + 1)).flatMap textB) w5) := by
        show Own _ _ _ _
        rw [unhide HTS, ← List.append_assoc]
        exact hO5
      have HG5 := hide ((unhide HG3).trans hG5)
      clear hO5 hG5 hc3
      go_wp2_with fail
      exact ⟨⟨j + 1, a5, n5, c5, by omega, by go_num, rfl, unhide HO5, unhide HG5⟩, by simp [intOf]; omega⟩
    · have e : j = n := by omega
      have hji : ¬ ((j : Nat) : Int) < ((n : Nat) : Int) := by omega
      have HO4 : Hid (Own w0 (.slice a3 n3 c3) (pre ++ (numB ((l.length : Nat) : Int) ++ l.flatMap textB)) wr) := by
        show Own _ _ _ _
        rw [unhide HCS, ← e]
        rw [e]
        rw [e] at hO3
        exact hO3
      clear e hO3 hG3 HO3
      go_wp2_with fail
      go_ret
      exact ⟨a3, n3, c3, rfl, unhide HO4, unhide HG3⟩
end Go.Proofs.Yteggocgfaejmbaa

namespace Go.Proofs.Yteggocgfaejmbaa
open Go.RowKit

theorem zeroCells_bytes (m : Nat) : (Builtin.zeroCells (Value.int .u8 0).cells m).toList = (List.replicate m (0 : UInt8)).map bv := by
  have e : (Value.int .u8 0).cells = #[.int .u8 0] := rfl
  rw [e, List.map_replicate]
  unfold Builtin.zeroCells
  apply List.ext_getElem
  · simp
  · intro j h1 h2
    simp [bv, Nat.mod_one]

theorem run_append_noughts {P : Program} (w : World) (t tn ty e : TypeId) (i : TypeInfo) (kn kq : IntKind) (ht : P.underlying t = some (.slice e)) (htn : P.underlying tn = some (.int kn)) (hi : P.info? e = some i) (hz : i.zero = some (.int .u8 0)) (hs : i.size = 1) (hb : i.bytes = 1)
    (v : Value) (xs : List UInt8) (hown : w.ownsRow 0 e 1 v xs.length (xs.map bv)) (m : Nat) (hl : xs.length + m ≤ 140737488355328) :
    ∃ v' w', (Builtin.append_ #[t, tn] ty #[v, .int kq (m : Nat)]).run P w = .ok v' w' ∧ w'.ownsRow 0 e 1 v' (xs ++ List.replicate m 0).length ((xs ++ List.replicate m 0).map bv) ∧ w.grownBy w' v.ownBlock ∧
      (v'.ownBlock = v.ownBlock ∨ ∃ k, v'.ownBlock = some k ∧ w.heap.size ≤ k) := by
  have hmx : xs.length + m ≤ maxLen := by unfold maxLen; omega
  have hw : IntKind.i64.wrap (m : Int) = m := by rw [IntKind.wrap_i64]; omega
  have hneg : ¬ ((m : Int) < 0) := by omega
  have h48i : ¬ (281474976710656 < (m : Int) * (i.bytes : Int)) := by rw [hb]; omega
  have hmap : (xs ++ List.replicate m 0).map bv = xs.map bv ++ (Builtin.zeroCells (Value.int .u8 0).cells m).toList := by rw [List.map_append, zeroCells_bytes]
  have hlen : (xs ++ List.replicate m (0 : UInt8)).length = xs.length + m := by simp
  have hzl : (Builtin.zeroCells (Value.int .u8 0).cells m).toList.length = m := by rw [zeroCells_bytes]; simp
  have hzz : (Builtin.zeroCells (Value.int .u8 0).cells m).size = m := by rw [← Array.length_toList]; exact hzl
  by_cases h0 : m = 0
  · subst h0
    refine ⟨v, w, ?_, by simpa using hown, World.grownBy.refl _ _, .inl rfl⟩
    rcases hown.2 with ⟨rfl, hn⟩ | ⟨g, cap, cur, rfl, hb0, hg, hnc, hcm, hcs, htk⟩
    · simp [Builtin.append_, run_underlying ht, run_underlying htn, sizeOf, typeInfo, hi, asInt, asIntOf, IntKind.wrap_i64]
    · simp [Builtin.append_, run_underlying ht, run_underlying htn, sizeOf, typeInfo, hi, asInt, asIntOf, IntKind.wrap_i64, hnc, storeCells]
  have grown : ∀ (old : Nat), ∀ (row : Option Nat),
      (w.drew.alloc (.cells ((xs.map bv).toArray ++ Builtin.zeroCells (Value.int .u8 0).cells m ++ Builtin.zeroCells (Value.int .u8 0).cells (grownCap w (xs.length + m) old e - (xs.length + m))) e)).ownsRow 0 e 1
        (.slice (some ⟨w.heap.size, 0, none⟩) (xs.length + m) (grownCap w (xs.length + m) old e)) (xs ++ List.replicate m 0).length ((xs ++ List.replicate m 0).map bv) ∧
      w.grownBy (w.drew.alloc (.cells ((xs.map bv).toArray ++ Builtin.zeroCells (Value.int .u8 0).cells m ++ Builtin.zeroCells (Value.int .u8 0).cells (grownCap w (xs.length + m) old e - (xs.length + m))) e)) row := by
    intro old row
    have hge := grownCap_ge w (xs.length + m) old e
    have hcm : grownCap w (xs.length + m) old e ≤ maxLen := grownCap_le_maxLen w (xs.length + m) old e hmx
    refine ⟨⟨by simp, .inr ⟨w.heap.size, _, _, by rw [hlen], Nat.zero_le _, heap_alloc_new w.drew _, by rw [hlen]; exact hge, hcm, ?_, ?_⟩⟩, ⟨rfl, rfl, rfl, by simp, fun k hk _ => heap_alloc_old w.drew _ hk⟩⟩
    · have e1 : (Value.int .u8 0).cells.size = 1 := rfl
      simp only [Array.size_append, List.size_toArray, size_zeroCells, e1, List.length_map]
      omega
    · rw [hmap, hlen]
      simp only [Array.toList_append]
      exact List.take_left' (by rw [List.length_append, hzl]; simp)
  rcases hown.2 with ⟨rfl, hn⟩ | ⟨g, cap, cur, rfl, hb0, hg, hnc, hcm, hcs, htk⟩
  · have hx : xs = [] := List.eq_nil_of_length_eq_zero hn
    subst hx
    have hr := Lib.run_append_nil_zeros (P := P) w t tn ty e i (.int .u8 0) kq kn ht htn hi hz m (by omega) (by omega) (by omega) (by rw [hb]; omega)
    have hgr := grown 0 (Value.ownBlock (.slice none 0 0))
    simp only [List.length_nil, Nat.zero_add, List.map_nil, Array.empty_append] at hgr
    refine ⟨_, _, hr, ?_, ?_, .inr ⟨_, rfl, Nat.le_refl _⟩⟩
    · exact hgr.1
    · exact hgr.2
  · by_cases hroom : xs.length + m ≤ cap
    · have hfit : xs.length * 1 + (Builtin.zeroCells (Value.int .u8 0).cells m).toList.length ≤ cur.size := by rw [hzl, hcs]; omega
      have hone : ∀ u ∈ (Builtin.zeroCells (Value.int .u8 0).cells m).toList, u.oneCell' = true := by rw [zeroCells_bytes]; exact bv_one _
      have hst := run_storeCells_at P g (xs.length * 1) e (Builtin.zeroCells (Value.int .u8 0).cells m).toList 0 cur w hg (by simpa using hfit) hone
      simp only [Nat.add_zero] at hst
      have hr : (Builtin.append_ #[t, tn] ty #[.slice (some ⟨g, 0, none⟩) xs.length cap, .int kq (m : Nat)]).run P w = .ok (.slice (some ⟨g, 0, none⟩) (xs.length + m) cap) (w.setRow g (cur.toList.take (xs.length * 1) ++ (Builtin.zeroCells (Value.int .u8 0).cells m).toList ++ cur.toList.drop (xs.length * 1 + (Builtin.zeroCells (Value.int .u8 0).cells m).toList.length)).toArray) := by
        have hns : ¬ (m * i.size = 0) := by rw [hs]; omega
        simp only [Nat.mul_one] at hst ⊢
        simp [Builtin.append_, run_underlying ht, run_underlying htn, sizeOf, typeInfo, zeroValue, hi, hz, hs, asInt, asIntOf, hw, h0, hneg, h48i, hroom, Addr.add_lit, hst]
      refine ⟨_, _, hr, ⟨by simp, .inr ⟨g, cap, _, by rw [hlen], Nat.zero_le _, setRow_heap w g cur _ e _ hg, by rw [hlen]; exact hroom, hcm, ?_, ?_⟩⟩, ⟨rfl, rfl, rfl, by simp, fun k _ hk => setRow_other w g k _ (fun e => hk (by simp [Value.ownBlock, e]))⟩, .inl rfl⟩
      · simp only [List.size_toArray, List.length_append, List.length_take, List.length_drop, Array.length_toList]
        omega
      · rw [htk, hmap, hlen]
        exact List.take_left' (by rw [List.length_append, hzl]; simp)
    · have holds : ∀ j u, (xs.map bv)[j]? = some u → w.cell? ((⟨g, 0, none⟩ : Addr).add j) = some u := hown.cells (g := g) rfl
      have hold := run_firstCells_some (P := P) w.drew i.size xs.length ⟨g, 0, none⟩ xs.length cap (xs.map bv) (by rw [hs]; simp) (by simpa using holds)
      have hr := Lib.run_append_grow_zeros (P := P) w t tn ty e i (.int .u8 0) kq kn ht htn hi hz (some ⟨g, 0, none⟩) xs.length cap (xs.map bv) hold m (by omega) (by omega) (by omega) (by omega) (by rw [hb]; omega) (by rw [hb]; exact growslice_fits (by omega) (by omega))
      have hgr := grown cap (Value.ownBlock (.slice (some ⟨g, 0, none⟩) xs.length cap))
      exact ⟨_, _, hr, hgr.1, hgr.2, .inr ⟨_, rfl, Nat.le_refl _⟩⟩

/-- In a walk. -/
theorem wpList_append_noughts {P : Program} (w : World) {ops : Array Oper} {rest : List Oper} {o : Oper} {a : Act} {Q : Exit → Act → World → Prop} (hgd : o.guard = none) (s x : Operand) (t tn : TypeId)
    (ho : o.op = .call { callee := .builtin .append, args := #[s, x], argTypes := #[t, tn] }) (e : TypeId) (i : TypeInfo) (kn kq : IntKind) (ht : P.underlying t = some (.slice e)) (htn : P.underlying tn = some (.int kn)) (hi : P.info? e = some i) (hz : i.zero = some (.int .u8 0)) (hs : i.size = 1) (hb : i.bytes = 1)
    (v : Value) (xs : List UInt8) (hsv : a.eval s = v) (hown : w.ownsRow 0 e 1 v xs.length (xs.map bv)) (m : Nat) (hx : a.eval x = .int kq (m : Nat)) (hl : xs.length + m ≤ 140737488355328)
    (h : ∀ v' w', w'.ownsRow 0 e 1 v' (xs ++ List.replicate m 0).length ((xs ++ List.replicate m 0).map bv) → w.grownBy w' v.ownBlock → (v'.ownBlock = v.ownBlock ∨ ∃ k, v'.ownBlock = some k ∧ w.heap.size ≤ k) → wpList P ops Q rest (a.put o.dst v') w') : wpList P ops Q (o :: rest) a w := by
  obtain ⟨v', w', hr, r1, r2, r3⟩ := run_append_noughts (P := P) w t tn o.type e i kn kq ht htn hi hz hs hb v xs hown m hl
  exact Lib.wpList_append_run w hgd s x t tn ho v (.int kq (m : Nat)) hsv hx v' w' hr (h v' w' r1 r2 r3)
end Go.Proofs.Yteggocgfaejmbaa

namespace Go.Proofs.Yteggocgfaejmbaa
open Go.RowKit

/-- Slices of bytes, in a row in the block g. -/
def RowsB (w : World) (g : Nat) (rows : List (List UInt8)) : Prop := ∀ i x, rows[i]? = some x → ∃ a c, w.cell? ⟨g, i, none⟩ = some (.slice a x.length c) ∧ Bytes w (.slice a x.length c) x
theorem RowsB.later {w W : World} {g : Nat} {rows : List (List UInt8)} (h : RowsB w g rows) (hb : Below w.heap.size w W) : RowsB W g rows := fun i x hx => by
  obtain ⟨a, c, h1, h2⟩ := h i x hx
  exact ⟨a, c, (hb.cell (World.block_lt_of_cell? _ _ h1)).trans h1, h2.kept fun k _ hk => hb.block k hk⟩

set_option maxRecDepth 100000 in
set_option maxHeartbeats 1000000 in
theorem growV_any (m : Nat) (hm : m ≤ 1048576) (w : World) : Calls Try.prog 63 #[.slice none 0 0, .int .i64 ((m : Nat) : Int)] w fun e w' => ∃ v, e = .returned v ∧ Own w v [] w' := by
  by_cases h0 : m = 0
  · subst h0
    go_enter Try.func63, Try.ntmps63
    go_wp2_with fail
    go_ret
    exact ⟨_, rfl, Own.start w⟩
  · obtain ⟨ti, hti, hz0, hz1, hz2⟩ := infoByte
    have h1 : (m : Int) > 0 := by omega
    have h2 : ¬ (m : Int) < 0 := by omega
    have HO := hide (Own.start w)
    go_enter Try.func63, Try.ntmps63
    go_wp2_with (at_builtin; refine wpList_append_noughts _ rfl _ _ 23 3 rfl 5 ti .i64 .i64 Try.underlying23 Try.underlying3 hti hz0 hz1 hz2 _ [] rfl (unhide HO).own m rfl (by simp; omega) ?_)
    rintro v1 w1 r1 r2 r3
    have HF : Hid (∃ g cap, v1 = .slice (some ⟨g, 0, none⟩) m cap ∧ Own w (.slice (some ⟨g, 0, none⟩) 0 cap) [] w1) := by
      have hb : Below w.heap.size w w1 := (unhide HO).bb.grown r2 (Nat.le_refl _) fun k hk => (by cases hk)
      rcases r1.2 with ⟨_, h⟩ | ⟨g, cap, cur, e, e2, e3, e4, e5, e6, e7⟩
      · exact absurd h h0
      · refine ⟨g, cap, e, ⟨⟨by simp, .inr ⟨g, cap, cur, rfl, Nat.zero_le _, e3, Nat.zero_le _, e5, e6, by simp⟩⟩, fun k hk => ?_, hb⟩⟩
        have hk' : g = k := by simpa [Value.ownBlock] using hk
        subst hk'
        rcases r3 with e' | ⟨k', e', h'⟩
        · rw [e] at e'; cases e'
        · rw [e] at e'; cases e'; exact h'
    clear r1 r2 r3 HO
    obtain ⟨g, cap, e, hO⟩ := unhide HF
    subst e
    have HO := hide hO
    clear hO HF
    go_wp2_with fail
    go_ret
    exact ⟨_, rfl, unhide HO⟩

theorem flat_takeV {rows : List (List UInt8)} {j : Nat} {x : List UInt8} (hx : rows[j]? = some x) : (rows.take (j + 1)).flatten = (rows.take j).flatten ++ x := by
  obtain ⟨hj, rfl⟩ := List.getElem?_eq_some_iff.1 hx
  rw [List.take_succ_eq_append_getElem hj, List.flatten_append, List.flatten_singleton]
theorem flat_leV (rows : List (List UInt8)) (j : Nat) : (rows.take j).flatten.length ≤ rows.flatten.length := by
  conv => rhs; rw [← List.take_append_drop j rows]
  rw [List.flatten_append, List.length_append]
  omega

theorem some_getV {α : Type} {xs : List α} {j : Nat} (h : j < xs.length) : ∃ x, xs[j]? = some x := ⟨_, List.getElem?_eq_getElem h⟩
/-- How long rows are, together. -/
def flatLen (rows : List (List UInt8)) : Nat := rows.flatten.length
theorem flatLen_le (rows : List (List UInt8)) (j : Nat) : flatLen (rows.take j) ≤ flatLen rows := flat_leV rows j
theorem flatLen_take {rows : List (List UInt8)} {j : Nat} {x : List UInt8} (hx : rows[j]? = some x) : flatLen (rows.take (j + 1)) = flatLen (rows.take j) + x.length := by unfold flatLen; rw [flat_takeV hx, List.length_append]
set_option maxRecDepth 100000 in
set_option maxHeartbeats 2000000 in
theorem concatV_any (g c : Nat) (rows : List (List UInt8)) (w : World) (h : RowsB w g rows) (ht : flatLen rows ≤ 1048576) (hl : rows.length ≤ 1048576) : Calls Try.prog 40 #[.slice (some ⟨g, 0, none⟩) rows.length c] w fun e w' => ∃ v, e = .returned v ∧ Own w v rows.flatten w' := by
  obtain ⟨n, hn⟩ : ∃ n, n = rows.length := ⟨_, rfl⟩
  rw [← hn] at hl ⊢
  have HH := hide h
  have HN := hide hn
  have HT := hide ht
  obtain ⟨ti, hti, hz0, hz1, hz2⟩ := infoByte
  clear h hn ht
  go_enter Try.func40, Try.ntmps40
  go_wp2_with fail
  go_loopw [3, 11] (fun s i W => ∃ j : Nat, j ≤ n ∧ i = .int .i64 j ∧ s = .int .i64 ((flatLen (rows.take j) : Nat) : Int) ∧ W = w) (fun _ i _ => n - (intOf i).toNat)
  case atStart => exact ⟨0, Nat.zero_le _, rfl, by simp [flatLen], rfl⟩
  case round =>
    obtain ⟨j, hj, rfl, rfl, rfl⟩ := hrel
    have HTL : Hid (∀ j, flatLen (rows.take j) ≤ 1048576) := fun j => Nat.le_trans (flatLen_le rows j) (unhide HT)
    by_cases hlt : j < n
    · obtain ⟨x, hx⟩ := some_getV (xs := rows) (j := j) (by have := unhide HN; omega)
      obtain ⟨d1, k1, x1, x3⟩ := unhide HH j x hx
      have i1 : (j : Int) < (n : Int) := by omega
      have HTT := hide (flatLen_take hx)
      have hle := unhide HTL (j + 1)
      rw [unhide HTT] at hle
      clear x3 hx
      generalize flatLen (rows.take j) = t0 at *
      generalize x.length = nx at *
      obtain ⟨E, hE⟩ : ∃ E, E = t0 + nx := ⟨_, rfl⟩
      have gE : (t0 : Int) + (nx : Int) = (E : Int) := by omega
      have gE2 : ¬ (E : Int) < 0 := by omega
      have gE3 : E ≤ 1048576 := by omega
      have HE := hide hE
      clear hE hle
      go_wp2_with fail
      exact ⟨⟨j + 1, by omega, by go_num, by rw [unhide HTT, ← unhide HE], by trivial⟩, by simp [intOf]; omega⟩
    · have ej : n = j := by omega
      subst ej
      have HTK : Hid (rows.take n = rows) := List.take_of_length_le (by have := unhide HN; omega)
      rw [unhide HTK]
      obtain ⟨wx, hwx⟩ : ∃ wx, wx = wr := ⟨_, rfl⟩
      subst hwx
      go_wp2_with fail
      refine (growV_any (flatLen rows) (unhide HT) _).mono ?_
      rintro e w2 ⟨v2, rfl, hO⟩
      have HO := hide hO
      clear hO
      go_wp2_with fail
      go_loopw [6, 27] (fun v i W => ∃ j : Nat, j ≤ n ∧ i = .int .i64 j ∧ Own wx v (rows.take j).flatten W) (fun _ i _ => n - (intOf i).toNat)
      case atStart => exact ⟨0, Nat.zero_le _, rfl, unhide HO⟩
      case round =>
        obtain ⟨j, hj, rfl, hO⟩ := hrel
        have HO := hide hO
        clear hO
        by_cases hlt : j < n
        · obtain ⟨x, hx⟩ := some_getV (xs := rows) (j := j) (by have := unhide HN; omega)
          obtain ⟨d1, k1, x1, x3⟩ := RowsB.later (unhide HH) (unhide HO).bb j x hx
          have i1 : (j : Int) < (n : Int) := by omega
          have X3 := hide x3
          have HFT := hide (flat_takeV hx)
          have HLE : Hid ((rows.take j).flatten.length + x.length ≤ 140737488355328) := by
            have := unhide HTL (j + 1)
            rw [flatLen_take hx] at this
            change flatLen (rows.take j) + x.length ≤ 140737488355328
            omega
          clear x3 hx
          obtain ⟨nx, hnx⟩ : ∃ nx, nx = x.length := ⟨_, rfl⟩
          rw [← hnx] at x1 X3
          clear hnx
          go_wp2_with (at_builtin; refine wpList_append_bytes _ rfl _ _ 23 rfl 5 ti (.int .u8 0) Try.underlying23 hti hz0 hz1 hz2 rfl _ _ rfl (unhide HO).own _ _ rfl (unhide X3) (unhide HLE) ?_)
          rintro v8 w8 r1 r2 r3
          have HO4 : Hid (Own wx v8 (rows.take (j + 1)).flatten w8) := by
            have h := (unhide HO).grown (cs := (rows.take j).flatten ++ x) (by simpa using r1) r2 r3
            rw [← unhide HFT] at h
            exact h
          clear r1 r2 r3 HO
          go_wp2_with fail
          exact ⟨⟨j + 1, by omega, by go_num, unhide HO4⟩, by simp [intOf]; omega⟩
        · have ej : n = j := by omega
          subst ej
          rw [unhide HTK] at HO
          go_wp2_with fail
          go_ret
          exact ⟨_, rfl, unhide HO⟩
end Go.Proofs.Yteggocgfaejmbaa
