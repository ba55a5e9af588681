/- ValAI, ValImplY, ValAwake, ValAwake2, ValDoor: our own definitions and contracts; no statement of the seat is proved here. -/
import Derived.Shelf.Strconv.AppendIntPublic10
import Derived.Lib.ItoaLen
import Derived.Test.YtobgmbfoofkdeaaDoorBase00
import Derived.Test.YtobgmbfoofkdeaaDoorBase02
import Derived.Test.YtobgmbfoofkdeaaDoorBase03
import Derived.Test.YtobgmbfoofkdeaaDoorBase07
import Derived.Test.YtobgmbfoofkdeaaDoorBase08
import Derived.Test.YtobgmbfoofkdeaaDoorBase09
import Derived.Test.YtobgmbfoofkdeaaDoorBase01
import Derived.Test.YtobgmbfoofkdeaaDoorRows
import Derived.Lib.LaidTab
import Derived.LaidMore
import Derived.ProofKit
import Derived.OpenShut
import Derived.Stop.Joined
namespace Go.Proofs.YtobgmbfoofkdeaaDoor
open Go.Shelf Go.RowKit
def aiRen : Go.Shelf.Ren := ⟨fun | 176 => 55 | 249 => 67 | 288 => 73 | 283 => 80 | 284 => 81 | 285 => 82 | 286 => 83 | 129 => 85 | 317 => 84 | 318 => 86 | 319 => 87 | 320 => 88 | 337 => 89 | 338 => 90 | n => n, fun | 37 => 25 | 2 => 2 | 3 => 3 | 53 => 64 | 4 => 4 | 9 => 9 | 171 => 106 | 0 => 0 | 173 => 109 | 212 => 113 | 51 => 114 | 5 => 5 | 20 => 20 | 213 => 115 | 46 => 104 | 232 => 119 | 233 => 120 | n => n, fun | 17 => 0 | 18 => 1 | 19 => 2 | n => n⟩
theorem aiLays : Go.Proofs.LaysM.n176 Tryd.prog aiRen := {
  mixed := by kernel_rfl
  f129 := Tryd.func85.trans (congrArg some (by kernel_rfl))
  f176 := Tryd.func55.trans (congrArg some (by kernel_rfl))
  f249 := Tryd.func67.trans (congrArg some (by kernel_rfl))
  f283 := Tryd.func80.trans (congrArg some (by kernel_rfl))
  f284 := Tryd.func81.trans (congrArg some (by kernel_rfl))
  f285 := Tryd.func82.trans (congrArg some (by kernel_rfl))
  f286 := Tryd.func83.trans (congrArg some (by kernel_rfl))
  f288 := Tryd.func73.trans (congrArg some (by kernel_rfl))
  f317 := Tryd.func84.trans (congrArg some (by kernel_rfl))
  f318 := Tryd.func86.trans (congrArg some (by kernel_rfl))
  f319 := Tryd.func87.trans (congrArg some (by kernel_rfl))
  f320 := Tryd.func88.trans (congrArg some (by kernel_rfl))
  f337 := Tryd.func89.trans (congrArg some (by kernel_rfl))
  f338 := Tryd.func90.trans (congrArg some (by kernel_rfl))
  t0 := Tryd.underlying0
  a0 := Tryd.isAgg0
  z0 := Tryd.sizeOf0
  v0 := Tryd.zeroValue0
  t2 := Tryd.underlying2
  a2 := Tryd.isAgg2
  z2 := Tryd.sizeOf2
  v2 := Tryd.zeroValue2
  t3 := Tryd.underlying3
  a3 := Tryd.isAgg3
  z3 := Tryd.sizeOf3
  v3 := Tryd.zeroValue3
  t4 := Tryd.underlying4
  a4 := Tryd.isAgg4
  z4 := Tryd.sizeOf4
  v4 := Tryd.zeroValue4
  t5 := Tryd.underlying5
  a5 := Tryd.isAgg5
  z5 := Tryd.sizeOf5
  v5 := Tryd.zeroValue5
  t9 := Tryd.underlying9
  a9 := Tryd.isAgg9
  z9 := Tryd.sizeOf9
  v9 := Tryd.zeroValue9
  t20 := Tryd.underlying20
  a20 := Tryd.isAgg20
  z20 := Tryd.sizeOf20
  v20 := Tryd.zeroValue20
  t37 := Tryd.underlying25
  a37 := Tryd.isAgg25
  z37 := Tryd.sizeOf25
  v37 := Tryd.zeroValue25
  t46 := Tryd.underlying104
  a46 := Tryd.isAgg104
  z46 := Tryd.sizeOf104
  v46 := Tryd.zeroValue104
  t51 := Tryd.underlying114
  a51 := Tryd.isAgg114
  z51 := Tryd.sizeOf114
  v51 := Tryd.zeroValue114
  t53 := Tryd.underlying64
  a53 := Tryd.isAgg64
  z53 := Tryd.sizeOf64
  v53 := Tryd.zeroValue64
  t171 := Tryd.underlying106
  a171 := Tryd.isAgg106
  z171 := Tryd.sizeOf106
  v171 := Tryd.zeroValue106
  t173 := Tryd.underlying109
  a173 := Tryd.isAgg109
  z173 := Tryd.sizeOf109
  v173 := Tryd.zeroValue109
  t212 := Tryd.underlying113
  a212 := Tryd.isAgg113
  z212 := Tryd.sizeOf113
  v212 := Tryd.zeroValue113
  t213 := Tryd.underlying115
  a213 := Tryd.isAgg115
  z213 := Tryd.sizeOf115
  t232 := Tryd.underlying119
  a232 := Tryd.isAgg119
  z232 := Tryd.sizeOf119
  v232 := Tryd.zeroValue119
  t233 := Tryd.underlying120
  a233 := Tryd.isAgg120
  z233 := Tryd.sizeOf120
  v233 := Tryd.zeroValue120
  g17 := by kernel_rfl
  g18 := by kernel_rfl
  g19 := by kernel_rfl
  i0 := by kernel_rfl
  i2 := by kernel_rfl
  i3 := by kernel_rfl
  i4 := by kernel_rfl
  i5 := by kernel_rfl
  i9 := by kernel_rfl
  i20 := by kernel_rfl
  i37 := by kernel_rfl
  i46 := by kernel_rfl
  i51 := by kernel_rfl
  i53 := by kernel_rfl
  i171 := by kernel_rfl
  i173 := by kernel_rfl
  i212 := by kernel_rfl
  i232 := by kernel_rfl
  i233 := by kernel_rfl
  m17 := by kernel_rfl
  m18 := by kernel_rfl
  m19 := by kernel_rfl }

theorem decs_itoa (u : Nat) : decs u = Lib.decDigits u := by
  induction u using Nat.strongRecOn with
  | ind u ih =>
    by_cases h : u < 10
    · rw [decs_low h, Lib.decDigits, dif_pos h, dgt, if_pos h]
    · rw [decs_high (by omega), Lib.decDigits, dif_neg h, ih _ (by omega), dgt, if_pos (by omega)]
theorem decI_itoa (n : Int) : decI n = Lib.itoa n := by
  unfold decI Lib.itoa
  split
  · rw [decs_itoa, show (-n).toNat = n.natAbs by omega]
  · rw [decs_itoa]

/-- The library's table reads as its text lays it. -/
def Tab (w : World) : Prop := Lib.TabIs Tryd.prog w "internal/strconv.uint64pow10" .u64 Lib.pow10Tab
theorem Tab.later {w w' : World} (h : Tab w) (hb : Below w.heap.size w w') : Tab w' := Lib.tabBelow_of_tabIs h w' hb

theorem appendInt_any (r : Value) (pre : List UInt8) (n : Int) (hn : InR n) (w0 w : World) (hO : Own w0 r pre w) (hT : Tab w0) (hl : pre.length ≤ 1000000000) : Calls Tryd.prog 55 #[r, .int .i64 n, .int .i64 10] w fun e w' => ∃ r', e = .returned r' ∧ Own w0 r' (pre ++ decI n) w' := by
  have hB : w.ownsRow w0.heap.size 5 1 r pre.length (pre.map bv) := by
    obtain ⟨h1, h2⟩ := hO.own
    refine ⟨h1, ?_⟩
    rcases h2 with h | ⟨g, cap, cur, e, _, h3⟩
    · exact .inl h
    · exact .inr ⟨g, cap, cur, e, hO.new g (by rw [e]; rfl), h3⟩
  refine (Any.strconv_AppendInt_10 aiLays w0.heap.size pre.length n hn.1 hn.2 r (pre.map bv) w hB hO.bb.size (by omega) ((Lib.tabBelow_of_tabIs hT).on hO.bb)).mono ?_
  rintro e w' ⟨v', rfl, h1, h2, -⟩
  have e1 : pre.map bv ++ Lib.byteCells (Lib.itoa n) = (pre ++ decI n).map bv := by rw [List.map_append, decI_itoa]; rfl
  have e2 : pre.length + (Lib.itoa n).length = (pre ++ decI n).length := by rw [List.length_append, decI_itoa]
  rw [e1, e2] at h1
  refine ⟨v', rfl, ?_, fun k hk => ?_, hO.bb.trans h2⟩
  · obtain ⟨h3, h4⟩ := h1
    refine ⟨h3, ?_⟩
    rcases h4 with h | ⟨g, cap, cur, e, _, h5⟩
    · exact .inl h
    · exact .inr ⟨g, cap, cur, e, Nat.zero_le _, h5⟩
  · rcases h1.2 with ⟨h, _⟩ | ⟨g, cap, cur, e, h4, h5⟩
    · rw [h] at hk; cases hk
    · rw [e] at hk; cases hk; exact h4
end Go.Proofs.YtobgmbfoofkdeaaDoor

namespace Go.Proofs.YtobgmbfoofkdeaaDoor
open Go.RowKit

theorem VD.shownL_take_le (l : List VD) (j : Nat) : (VD.shownL true (l.take j)).length ≤ (VD.shownL true l).length := by
  have key : ∀ (l : List VD) (f : Bool) (j : Nat), (VD.shownL f (l.take j)).length ≤ (VD.shownL f l).length := by
    intro l
    induction l with
    | nil => intro f j; simp
    | cons x r ih =>
      intro f j
      cases j with
      | zero => simp [VD.shownL]
      | succ j =>
        have := ih false j
        simp only [List.take_succ_cons, VD.shownL, List.length_append]
        omega
  exact key l true j

set_option maxRecDepth 100000 in
set_option maxHeartbeats 1000000 in
theorem shown_any (v : VD) : ∀ (B : Nat → Prop) (u r : Value) (pre : List UInt8) (w0 w : World), v.At B w0 u → Own w0 r pre w → Tab w0 → v.kinds = true → pre.length + v.shown.length ≤ 1000000000 →
    Calls Tryd.prog 39 #[r, u] w fun e w' => ∃ r', e = .returned r' ∧ Own w0 r' (pre ++ v.shown) w' := by
  induction v using VD.induct with
  | h v ih =>
    intro B u r pre w0 w hA hO hT hkd hlen
    obtain ⟨ti, hti, hz0, hz1, hz2⟩ := infoByte
    have hfit := hA.fits
    obtain ⟨a, c, rfl, hlc, -⟩ := hA.box
    have HEL := hide hA.elems
    obtain ⟨w1, hw1⟩ : ∃ w1, w1 = w.alloc (.cells #[.int .u8 ((v.k : Nat) : Int), .int .i64 v.n, .string ⟨v.s.toArray⟩, .slice a v.l.length c] 24) := ⟨_, rfl⟩
    have hb1 : Below w.heap.size w w1 := by rw [hw1]; exact (Below.refl _ w).alloc (Nat.le_refl _) _
    have hr1 : w1.heap[w.heap.size]? = some (.cells #[.int .u8 ((v.k : Nat) : Int), .int .i64 v.n, .string ⟨v.s.toArray⟩, .slice a v.l.length c] 24 (0, 0)) := by rw [hw1]; exact heap_alloc_new w _
    have HSD : Hid (Sd w0 w.heap.size #[.int .u8 ((v.k : Nat) : Int), .int .i64 v.n, .string ⟨v.s.toArray⟩, .slice a v.l.length c] r pre w1) := ⟨hO.later hb1, hr1, fun e => by have := (hO.own.lt _ e).2; omega⟩
    have HW1 := hide hw1
    have HIH := hide ih
    have HFT := hide hfit
    have HLN := hide hlen
    have HTB := hide hT
    obtain ⟨c0, c1, c2, c3⟩ := (unhide HSD).cells
    clear hA hO ih hfit hw1 hb1 hr1 hlen hT
    rcases VD.kinds_cases hkd with ⟨n, rfl⟩ | ⟨s, rfl, hs⟩ | ⟨l, rfl, hl, hkl⟩
    · simp only [VD.k, VD.n, VD.s, VD.l, List.length_nil] at HW1 HSD c0 c1 c2 c3 ⊢
      rw [show ((0 : Nat) : Int) = 0 from rfl] at HW1 HSD c0 ⊢
      have HC := hide (appendInt_any r pre n (unhide HFT).n w0 w1 (unhide HSD).own (unhide HTB) (by have := unhide HLN; omega))
      have HBD : Hid (VD.shown (.mk 0 n [] []) = decI n) := rfl
      go_enter Tryd.func39, Tryd.ntmps39
      go_upto_region 1 with fail
      rw [← unhide HW1]
      clear HW1
      go_wp2_with fail
      refine (unhide HC).mono ?_
      rintro e w2 ⟨r2, rfl, hO2⟩
      have HO2 := hide hO2
      clear hO2 c0 c1 c2 c3 HSD
      go_wp2
      go_ret
      exact ⟨_, rfl, by rw [unhide HBD]; exact unhide HO2⟩
    · simp only [VD.k, VD.n, VD.s, VD.l, List.length_nil] at HW1 HSD c0 c1 c2 c3 ⊢
      rw [show ((1 : Nat) : Int) = 1 from rfl] at HW1 HSD c0 ⊢
      have HC := hide (shownText_any s pre hs r w0 w1 (unhide HSD).own (by have := unhide HLN; omega))
      have HBD : Hid (VD.shown (.mk 1 0 s []) = 34 :: (s.flatMap escB ++ [34])) := rfl
      generalize (⟨s.toArray⟩ : ByteArray) = z at *
      go_enter Tryd.func39, Tryd.ntmps39
      go_upto_region 1 with fail
      rw [← unhide HW1]
      clear HW1
      go_wp2_with fail
      refine (unhide HC).mono ?_
      rintro e w2 ⟨r2, rfl, hO2⟩
      have HO2 := hide hO2
      clear hO2 c0 c1 c2 c3 HSD
      go_wp2
      go_ret
      exact ⟨_, rfl, by rw [unhide HBD]; exact unhide HO2⟩
    · simp only [VD.k, VD.n, VD.s, VD.l] at HW1 HSD c0 c1 c2 c3 HEL HIH ⊢
      rw [show ((2 : Nat) : Int) = 2 from rfl] at HW1 HSD c0 ⊢
      have HKL := hide hkl
      have HBD : Hid (pre ++ VD.shown (.mk 2 0 [] l) = ((pre ++ [91]) ++ VD.shownL true l) ++ [93]) := by
        show _ = _
        have e : VD.shown (.mk 2 0 [] l) = 91 :: (VD.shownL true l ++ [93]) := rfl
        rw [e]; simp
      have HLL : Hid (pre.length + (VD.shownL true l).length + 2 ≤ 1000000000) := by
        show _ ≤ _
        have h1 := unhide HLN
        have e : VD.shown (.mk 2 0 [] l) = 91 :: (VD.shownL true l ++ [93]) := rfl
        rw [e] at h1
        simp only [List.length_cons, List.length_append, List.length_nil] at h1
        omega
      obtain ⟨n, hn⟩ : ∃ n, n = l.length := ⟨_, rfl⟩
      rw [← hn] at HW1 HSD c3 hl ⊢
      have HN := hide hn
      clear hn hkl
      go_enter Tryd.func39, Tryd.ntmps39
      go_upto_region 1 with fail
      rw [← unhide HW1]
      clear HW1
      go_wp2_with (at_builtin; refine wpList_append_bytes _ rfl _ _ 25 rfl 5 ti (.int .u8 0) Tryd.underlying25 hti hz0 hz1 hz2 rfl _ pre rfl ((unhide HSD).own.alloc _).own _ [91] rfl (bytes_one w1 91) (by have := unhide HLL; simp; omega) ?_)
      rintro v6 w6 r1 r2 r3
      have HS6 := hide (((unhide HSD).later ((Below.refl _ w1).alloc (Nat.le_refl _) _)).grown (cs := pre ++ [91]) (by simpa using r1) r2 (by simpa using r3))
      clear r1 r2 r3 c0 c1 c2 c3
      obtain ⟨c0, c1, c2, c3⟩ := (unhide HS6).cells
      have HO6 := hide (unhide HS6).own
      obtain ⟨Pf, hPf⟩ : ∃ Pf, Pf = pre ++ [91] := ⟨_, rfl⟩
      have HPL : Hid (Pf.length + (VD.shownL true l).length + 1 ≤ 1000000000) := by show _ ≤ _; rw [hPf, List.length_append, List.length_singleton]; have := unhide HLL; omega
      rw [← hPf] at HO6 HBD
      clear hPf HS6 HLL
      go_wp2
      clear c0 c1 c2 c3
      go_loopw [0, 27] (fun r k W => ∃ (j : Nat) (ra : Value), j ≤ n ∧ k = .int .i64 ((j : Nat) : Int) ∧ ra = r ∧ Own w0 ra (Pf ++ VD.shownL true (l.take j)) W) (fun _ k _ => n - (intOf k).toNat)
      case atStart => exact ⟨0, _, by omega, rfl, rfl, by simpa [VD.shownL] using unhide HO6⟩
      case round =>
        obtain ⟨j, ra, hj, rfl, rfl, hO⟩ := hrel
        have HO := hide hO
        by_cases hlt : j < n
        · have hji : ((j : Nat) : Int) < ((n : Nat) : Int) := by omega
          have hjl : j < l.length := by have := unhide HN; omega
          obtain ⟨b, o, eK, el, ec, eN, ez, ea, rfl, _, x0, x1, x2, x3, he⟩ := (unhide HEL j hjl).out
          have hk : ∀ {p : Addr} {x : Value}, w0.cell? p = some x → wr.cell? p = some x := fun hx => (hO.bb.cell (World.block_lt_of_cell? _ _ hx)).trans hx
          have y0 := hk x0
          have y1 := hk x1
          have y2 := hk x2
          have y3 := hk x3
          have hmem : l[j] ∈ l := List.getElem_mem hjl
          have hsn : VD.shownL true (l.take (j + 1)) = VD.shownL true (l.take j) ++ ((if true && (l.take j).isEmpty then [] else [44]) ++ (l[j]).shown) := by
            rw [List.take_succ_eq_append_getElem hjl, VD.shownL_snoc]
          have hle := VD.shownL_take_le l (j + 1)
          have HIE : Hid ((l.take j).isEmpty = decide (j = 0)) := by
            show _ = _
            rw [Bool.eq_iff_iff, List.isEmpty_iff, decide_eq_true_iff, List.take_eq_nil_iff]
            constructor
            · rintro (h | h)
              · exact h
              · rw [h] at hjl; simp at hjl
            · exact .inl
          obtain ⟨W4, hW4⟩ : ∃ W4, W4 = wr.alloc (.cells #[.int .u8 ((eK : Nat) : Int), .int .i64 eN, .string ez, .slice ea el ec] 24) := ⟨_, rfl⟩
          have hb4 : Below wr.heap.size wr W4 := by rw [hW4]; exact (Below.refl _ _).alloc (Nat.le_refl _) _
          have hr4 : W4.heap[wr.heap.size]? = some (.cells #[.int .u8 ((eK : Nat) : Int), .int .i64 eN, .string ez, .slice ea el ec] 24 (0, 0)) := by rw [hW4]; exact heap_alloc_new wr _
          have HS4 : Hid (Sd w0 wr.heap.size #[.int .u8 ((eK : Nat) : Int), .int .i64 eN, .string ez, .slice ea el ec] ra (Pf ++ VD.shownL true (l.take j)) W4) := ⟨hO.later hb4, hr4, fun e => by have := (hO.own.lt _ e).2; omega⟩
          obtain ⟨i0, i1, i2, i3⟩ := (unhide HS4).cells
          have HC : Hid (∀ (rb : Value) (sep : List UInt8) (W : World), sep.length + (VD.shownL true (l.take j)).length + (l[j]).shown.length ≤ (VD.shownL true l).length → Own w0 rb ((Pf ++ VD.shownL true (l.take j)) ++ sep) W → Calls Tryd.prog 39 #[rb, .agg #[.int .u8 ((eK : Nat) : Int), .int .i64 eN, .string ez, .slice ea el ec]] W fun e w' => ∃ r', e = .returned r' ∧ Own w0 r' (((Pf ++ VD.shownL true (l.take j)) ++ sep) ++ (l[j]).shown) w') := fun rb sep W h1 h2 => unhide HIH _ hmem B _ rb _ w0 W he h2 (unhide HTB) (unhide HKL _ hmem) (by simp only [List.length_append]; have := unhide HPL; omega)
          have HW4 := hide hW4
          have HSN := hide hsn
          have HLE := hide hle
          have HLX : Hid ((VD.shownL true (l.take (j + 1))).length = (VD.shownL true (l.take j)).length + ((if true && (l.take j).isEmpty then ([] : List UInt8) else [44]).length + (l[j]).shown.length)) := by show _ = _; rw [hsn]; simp only [List.length_append]
          generalize (l[j]).shown = bj at *
          clear he hmem x0 x1 x2 x3 hk hO hb4 hr4 hW4 hle hsn
          go_upto_region 10 with fail
          rw [← unhide HW4]
          clear HW4 y0 y1 y2 y3
          by_cases hj0 : j = 0
          · have hji0 : ¬ ((j : Nat) : Int) > 0 := by omega
            have HSN2 : Hid (VD.shownL true (l.take (j + 1)) = VD.shownL true (l.take j) ++ bj) := by show _ = _; rw [unhide HSN, unhide HIE, decide_eq_true hj0]; rfl
            have HCC := hide (unhide HC ra [] W4 (by have h1 := unhide HLX; rw [unhide HIE, decide_eq_true hj0] at h1; have := unhide HLE; simp at *; omega) (by simpa using (unhide HS4).own))
            clear hj0
            go_wp2_with fail
            refine (unhide HCC).mono ?_
            rintro e w7 ⟨r7, rfl, hO7⟩
            have HO7 := hide hO7
            clear hO7 i0 i1 i2 i3
            go_wp2
            exact ⟨⟨j + 1, _, by omega, by go_num, rfl, by rw [unhide HSN2, ← List.append_assoc]; simpa using unhide HO7⟩, by simp [intOf]; omega⟩
          · have hji0 : ((j : Nat) : Int) > 0 := by omega
            have HSN2 : Hid (VD.shownL true (l.take (j + 1)) = VD.shownL true (l.take j) ++ ([44] ++ bj)) := by show _ = _; rw [unhide HSN, unhide HIE, decide_eq_false hj0]; rfl
            have HL2 : Hid (([44] : List UInt8).length + (VD.shownL true (l.take j)).length + bj.length ≤ (VD.shownL true l).length) := by show _ ≤ _; have h1 := unhide HLX; rw [unhide HIE, decide_eq_false hj0] at h1; have := unhide HLE; simp at *; omega
            clear hj0
            go_wp2_with (at_builtin; refine wpList_append_bytes _ rfl _ _ 25 rfl 5 ti (.int .u8 0) Tryd.underlying25 hti hz0 hz1 hz2 rfl _ (Pf ++ VD.shownL true (l.take j)) rfl ((unhide HS4).own.alloc _).own _ [44] rfl (bytes_one W4 44) (by have := unhide HPL; have := unhide HL2; simp at *; omega) ?_)
            rintro v8 w8 r1 r2 r3
            have HS8 := hide (((unhide HS4).later ((Below.refl _ W4).alloc (Nat.le_refl _) _)).grown (cs := (Pf ++ VD.shownL true (l.take j)) ++ [44]) (by simpa using r1) r2 (by simpa using r3))
            clear r1 r2 r3 i0 i1 i2 i3
            obtain ⟨i0, i1, i2, i3⟩ := (unhide HS8).cells
            have HCC := hide (unhide HC v8 [44] w8 (unhide HL2) (unhide HS8).own)
            go_wp2_with fail
            refine (unhide HCC).mono ?_
            rintro e w7 ⟨r7, rfl, hO7⟩
            have HO7 := hide hO7
            clear hO7 i0 i1 i2 i3
            go_wp2
            exact ⟨⟨j + 1, _, by omega, by go_num, rfl, by rw [unhide HSN2, ← List.append_assoc, ← List.append_assoc]; exact unhide HO7⟩, by simp [intOf]; omega⟩
        · have e : j = n := by omega
          have hji : ¬ ((j : Nat) : Int) < ((n : Nat) : Int) := by omega
          have HTK : Hid (l.take j = l) := List.take_of_length_le (by have := unhide HN; omega)
          rw [unhide HTK] at HO
          have HFL : Hid ((Pf ++ VD.shownL true l).length ≤ 1000000000) := by show _ ≤ _; rw [List.length_append]; have := unhide HPL; omega
          clear e hO
          generalize Pf ++ VD.shownL true l = S at *
          go_wp2_with (at_builtin; refine wpList_append_bytes _ rfl _ _ 25 rfl 5 ti (.int .u8 0) Tryd.underlying25 hti hz0 hz1 hz2 rfl _ S rfl ((unhide HO).alloc _).own _ [93] rfl (bytes_one wr 93) (by have := unhide HFL; simp; omega) ?_)
          rintro v8 w8 r1 r2 r3
          have HO8 := hide (((unhide HO).alloc _).grown (cs := S ++ [93]) (by simpa using r1) r2 (by simpa using r3))
          clear r1 r2 r3
          go_wp2
          go_ret
          exact ⟨_, rfl, by rw [unhide HBD]; exact unhide HO8⟩

set_option maxRecDepth 100000 in
set_option maxHeartbeats 1000000 in
theorem vShow_any (v : VD) (B : Nat → Prop) (u : Value) (w : World) (hA : v.At B w u) (hr : v.right = true) (hT : Tab w) : Calls Tryd.prog 19 #[u] w fun e w' => e = .returned (.string ⟨v.shown.toArray⟩) ∧ Below w.heap.size w w' := by
  have HR0 : Hid (∀ W, Below w.heap.size w W → Calls Tryd.prog 12 #[u] W fun e w' => e = .returned (.bool true) ∧ Below W.heap.size W w') := fun W hW => (right_any v B u W (hA.later hW)).mono fun e w' h => by rw [hr] at h; exact h
  have HS0 : Hid (∀ W, Below w.heap.size w W → Calls Tryd.prog 39 #[.slice none 0 0, u] W fun e w' => ∃ a c, e = .returned (.slice a v.shown.length c) ∧ Own W (.slice a v.shown.length c) v.shown w') := fun W hW => (shown_any v B u (.slice none 0 0) [] W W (hA.later hW) (Own.start W) (hT.later hW) (right_parts hr).1 (by have := VD.shown_le v (right_parts hr).1 hA.fits; have := (right_parts hr).2.2; simp; omega)).mono fun e w' h => by
    obtain ⟨r', rfl, hO⟩ := h
    rw [List.nil_append] at hO
    obtain ⟨a, c, rfl, _⟩ := hO.fresh.1.1.form
    exact ⟨a, c, rfl, hO⟩
  obtain ⟨a, c, rfl, -, -⟩ := hA.box
  obtain ⟨n, hn⟩ : ∃ n, n = v.l.length := ⟨_, rfl⟩
  obtain ⟨K, hK⟩ : ∃ K, K = v.k := ⟨_, rfl⟩
  obtain ⟨N, hN⟩ : ∃ N, N = v.n := ⟨_, rfl⟩
  obtain ⟨z, hz⟩ : ∃ z : ByteArray, z = ⟨v.s.toArray⟩ := ⟨_, rfl⟩
  rw [← hn, ← hK, ← hN, ← hz] at HR0 HS0 ⊢
  generalize v.shown = S at *
  obtain ⟨m, hm⟩ : ∃ m, m = S.length := ⟨_, rfl⟩
  rw [← hm] at HS0
  obtain ⟨W1, hW1⟩ : ∃ W1, W1 = w.alloc (.cells #[.int .u8 ((K : Nat) : Int), .int .i64 N, .string z, .slice a n c] 24) := ⟨_, rfl⟩
  have hb1 : Below w.heap.size w W1 := by rw [hW1]; exact (Below.refl _ w).alloc (Nat.le_refl _) _
  have hr1 : W1.heap[w.heap.size]? = some (.cells #[.int .u8 ((K : Nat) : Int), .int .i64 N, .string z, .slice a n c] 24 (0, 0)) := by rw [hW1]; exact heap_alloc_new w _
  obtain ⟨⟨c0, c1, c2, c3⟩, -⟩ := cells4 hr1
  have HW1 := hide hW1
  have HB1 := hide hb1
  have HR1 := hide hr1
  clear hA hn hK hN hz hW1 hb1 hr1 hr hT hm
  go_enter Tryd.func19, Tryd.ntmps19
  go_upto_region 1 with fail
  rw [← unhide HW1]
  clear HW1
  go_wp2_with fail
  refine (unhide HR0 _ (unhide HB1)).mono ?_
  rintro e W2 ⟨rfl, hb2⟩
  have hr2 := (hb2.block _ (lt_rowV (unhide HR1))).trans (unhide HR1)
  have HB2 := hide ((unhide HB1).trans (hb2.mono (unhide HB1).size))
  clear hb2 c0 c1 c2 c3
  obtain ⟨⟨c0, c1, c2, c3⟩, -⟩ := cells4 hr2
  clear hr2
  go_wp2_with fail
  refine (unhide HS0 _ (unhide HB2)).mono ?_
  rintro e W3 ⟨ra, rc, rfl, hO⟩
  have HB3 := hide ((unhide HB2).trans (hO.bb.mono (unhide HB2).size))
  have cv := run_convert_bytes (P := Tryd.prog) W3 25 9 5 Tryd.underlying25 Tryd.underlying5 Tryd.underlying9 _ S hO.fresh.1.1
  clear hO c0 c1 c2 c3
  go_wp2
  go_ret
  exact ⟨rfl, unhide HB3⟩
end Go.Proofs.YtobgmbfoofkdeaaDoor

namespace Go.Proofs.YtobgmbfoofkdeaaDoor
open Go.RowKit

theorem bytes_blockV {w : World} {g n : Nat} {t : TypeId} {bs : List UInt8} {fz : Nat × Nat} (h : w.heap[g]? = some (.cells (bs.map bv).toArray t fz)) (hn : bs.length = n) (hm : n ≤ maxLen) : Bytes w (.slice (some ⟨g, 0, none⟩) n n) bs := by
  subst hn
  refine .inr ⟨⟨g, 0, none⟩, bs.length, rfl, Nat.le_refl _, hm, fun j x hx => ?_⟩
  rw [Addr.add_mid, Nat.zero_add, cell_of_row _ _ _ _ _ _ h]
  simpa using hx
def exV0 : VD := .mk 0 5 [] []
def exV1 : VD := .mk 1 0 [97, 37] []
def exV2 : VD := .mk 2 0 [] [.mk 0 (-1) [] [], .mk 2 0 [] []]
theorem ex_b0 : exV0.bytes = [0, 10] := by
  show numB 0 ++ numB 5 = _
  have h0 : numB 0 = [0] := by show grp 0 = _; simp [grp]
  have h1 : numB 5 = [10] := by show grp 10 = _; simp [grp]
  rw [h0, h1]; rfl
theorem ex_b1 : exV1.bytes = [2, 4, 97, 37] := by
  show numB 1 ++ (numB 2 ++ [97, 37]) = _
  have h0 : numB 1 = [2] := by show grp 2 = _; simp [grp]
  have h1 : numB 2 = [4] := by show grp 4 = _; simp [grp]
  rw [h0, h1]; rfl
theorem ex_b2 : exV2.bytes = [4, 4, 0, 1, 4, 0] := by
  show numB 2 ++ (numB 2 ++ ((numB 0 ++ numB (-1)) ++ ((numB 2 ++ (numB 0 ++ [])) ++ []))) = _
  have h0 : numB 0 = [0] := by show grp 0 = _; simp [grp]
  have h1 : numB 2 = [4] := by show grp 4 = _; simp [grp]
  have h2 : numB (-1) = [1] := by show grp 1 = _; simp [grp]
  rw [h0, h1, h2]; rfl
theorem ex_s0 : exV0.shown = [53] := by
  show decI 5 = _
  rw [decI, if_neg (by decide), show (5 : Int).toNat = 5 from rfl, decs_low (by decide)]; rfl
theorem ex_s1 : exV1.shown = [34, 97, 37, 50, 53, 34] := by
  show 34 :: ([97, 37].flatMap escB ++ [34]) = _
  decide
theorem ex_s2 : exV2.shown = [91, 45, 49, 44, 91, 93, 93] := by
  have h : decI (-1) = [45, 49] := by rw [decI, if_pos (by decide), show (-(-1 : Int)).toNat = 1 from rfl, decs_low (by decide)]; rfl
  show 91 :: (([] ++ (decI (-1) ++ ([44] ++ ((91 :: ([] ++ [93])) ++ [])))) ++ [93]) = _
  rw [h]; rfl
theorem ex_six : NoVal [6] 6 := by
  have h : numB 3 = [6] := by show grp 6 = _; simp [grp]
  have hr := Reads.of (b := [6]) (n := 3) (r := []) (by unfold InR; omega) (by rw [h]; rfl)
  exact noVal_kind hr (.inr (by omega))
theorem ex_fits0 : exV0.Fits := .mk _ _ _ _ (by unfold InR; omega) fun x hx => by cases hx
theorem ex_three : VReads [0, 10, 0] 6 exV0 2 := by
  have h := vreads_right (v := exV0) [0] (by decide) ex_fits0
  rw [ex_b0] at h
  exact h

/-- One of the chapter's values, with its bytes and its text, in the table. -/
structure ExV (W : World) (T j : Nat) (v : VD) (K xl xc s L : Nat) (N : Int) (z zs : ByteArray) (xa : Option Addr) : Prop where
  c0 : W.cell? ⟨T, j * 6, none⟩ = some (.int .u8 ((K : Nat) : Int))
  c1 : W.cell? ⟨T, j * 6 + 1, none⟩ = some (.int .i64 N)
  c2 : W.cell? ⟨T, j * 6 + 2, none⟩ = some (.string z)
  c3 : W.cell? ⟨T, j * 6 + 3, none⟩ = some (.slice xa xl xc)
  c4 : W.cell? ⟨T, j * 6 + 4, none⟩ = some (.slice (some ⟨s, 0, none⟩) L L)
  c5 : W.cell? ⟨T, j * 6 + 5, none⟩ = some (.string zs)
  val : v.At (fun _ => True) W (.agg #[.int .u8 ((K : Nat) : Int), .int .i64 N, .string z, .slice xa xl xc])
  right : v.right = true
  bytes : Bytes W (.slice (some ⟨s, 0, none⟩) L L) v.bytes
  len : L ≤ 10
  shown : zs = ⟨v.shown.toArray⟩
theorem exV_of {W : World} {T j : Nat} {v : VD} {K xl xc s L : Nat} {N : Int} {z zs : ByteArray} {xa : Option Addr} {C : Array Value} {t : TypeId} {bs sh : List UInt8} (hT : W.heap[T]? = some (.cells C t (0, 0)))
    (h0 : C[j * 6]? = some (.int .u8 ((K : Nat) : Int))) (h1 : C[j * 6 + 1]? = some (.int .i64 N)) (h2 : C[j * 6 + 2]? = some (.string z)) (h3 : C[j * 6 + 3]? = some (.slice xa xl xc)) (h4 : C[j * 6 + 4]? = some (.slice (some ⟨s, 0, none⟩) L L)) (h5 : C[j * 6 + 5]? = some (.string zs))
    (hv : v.At (fun _ => True) W (.agg #[.int .u8 ((K : Nat) : Int), .int .i64 N, .string z, .slice xa xl xc])) (hr : v.right = true) (hb : v.bytes = bs) (hs : W.heap[s]? = some (.cells (bs.map bv).toArray 5 (0, 0))) (hl : bs.length = L) (hL : L ≤ 10) (hsh : v.shown = sh) (hz : zs = ⟨sh.toArray⟩) : ExV W T j v K xl xc s L N z zs xa := by
  subst hb
  subst hsh
  exact ⟨(cell_of_row _ _ _ _ _ _ hT).trans h0, (cell_of_row _ _ _ _ _ _ hT).trans h1, (cell_of_row _ _ _ _ _ _ hT).trans h2, (cell_of_row _ _ _ _ _ _ hT).trans h3, (cell_of_row _ _ _ _ _ _ hT).trans h4, (cell_of_row _ _ _ _ _ _ hT).trans h5, hv, hr, bytes_blockV hs hl (by unfold maxLen; omega), hL, hz⟩
theorem at_plain {B : Nat → Prop} {W : World} {k : Nat} {n : Int} {s : List UInt8} (hk : k < 256) (hn : InR n) (hs : s.length ≤ maxLen) : (VD.mk k n s []).At B W (.agg #[.int .u8 ((k : Nat) : Int), .int .i64 n, .string ⟨s.toArray⟩, .slice none 0 0]) := by
  rw [VD.at_iff]
  exact ⟨none, 0, rfl, hk, hn, hs, Nat.le_refl _, Nat.zero_le _, fun j hj => absurd hj (Nat.not_lt_zero j)⟩
/-- The table, behind all that makes it. -/
theorem ex_table {W : World} {T g1 g2 g4 g5 : Nat} {t : TypeId} (hT : W.heap[T]? = some (.cells #[.int .u8 0, .int .i64 5, .string ⟨#[]⟩, .slice none 0 0, .slice (some ⟨g1, 0, none⟩) 2 2, .string ⟨#[53]⟩, .int .u8 1, .int .i64 0, .string ⟨#[97, 37]⟩, .slice none 0 0, .slice (some ⟨g2, 0, none⟩) 4 4, .string ⟨#[34, 97, 37, 50, 53, 34]⟩, .int .u8 2, .int .i64 0, .string ⟨#[]⟩, .slice (some ⟨g4, 0, none⟩) 2 2, .slice (some ⟨g5, 0, none⟩) 6 6, .string ⟨#[91, 45, 49, 44, 91, 93, 93]⟩] t (0, 0)))
    (h1 : W.heap[g1]? = some (.cells #[.int .u8 0, .int .u8 10] 5 (0, 0))) (h2 : W.heap[g2]? = some (.cells #[.int .u8 2, .int .u8 4, .int .u8 97, .int .u8 37] 5 (0, 0))) (h5 : W.heap[g5]? = some (.cells #[.int .u8 4, .int .u8 4, .int .u8 0, .int .u8 1, .int .u8 4, .int .u8 0] 5 (0, 0)))
    (h4 : W.heap[g4]? = some (.cells #[.int .u8 0, .int .i64 (-1), .string ⟨#[]⟩, .slice none 0 0, .int .u8 2, .int .i64 0, .string ⟨#[]⟩, .slice none 0 0] 24 (0, 0))) (j : Nat) (hj : j < 3) : ∃ v K xl xc s L N z zs xa, ExV W T j v K xl xc s L N z zs xa := by
  have hc : j = 0 ∨ j = 1 ∨ j = 2 := by omega
  rcases hc with rfl | rfl | rfl
  · exact ⟨exV0, 0, 0, 0, g1, 2, 5, _, _, none, exV_of hT rfl rfl rfl rfl rfl rfl (at_plain (k := 0) (n := 5) (s := []) (by omega) (by unfold InR; omega) (Nat.zero_le _)) (by decide) ex_b0 h1 rfl (by omega) ex_s0 rfl⟩
  · exact ⟨exV1, 1, 0, 0, g2, 4, 0, _, _, none, exV_of hT rfl rfl rfl rfl rfl rfl (at_plain (k := 1) (n := 0) (s := [97, 37]) (by omega) (by unfold InR; omega) (by unfold maxLen; simp)) (by decide) ex_b1 h2 rfl (by omega) ex_s1 rfl⟩
  · refine ⟨exV2, 2, 2, 2, g5, 6, 0, _, _, some ⟨g4, 0, none⟩, exV_of hT rfl rfl rfl rfl rfl rfl ?_ (by decide) ex_b2 h5 rfl (by omega) ex_s2 rfl⟩
    rw [VD.at_iff]
    refine ⟨some ⟨g4, 0, none⟩, 2, rfl, by decide, by show InR 0; unfold InR; omega, Nat.zero_le _, Nat.le_refl _, by unfold maxLen; omega, fun i hi => ?_⟩
    have hi : i < 2 := hi
    have hc : i = 0 ∨ i = 1 := by omega
    rcases hc with rfl | rfl
    · exact ⟨g4, 0, _, _, _, _, rfl, trivial, cell_of_row _ _ 0 _ _ _ h4, cell_of_row _ _ 1 _ _ _ h4, cell_of_row _ _ 2 _ _ _ h4, cell_of_row _ _ 3 _ _ _ h4, at_plain (k := 0) (n := -1) (s := []) (by omega) (by unfold InR; omega) (Nat.zero_le _)⟩
    · exact ⟨g4, 0, _, _, _, _, rfl, trivial, cell_of_row _ _ 4 _ _ _ h4, cell_of_row _ _ 5 _ _ _ h4, cell_of_row _ _ 6 _ _ _ h4, cell_of_row _ _ 7 _ _ _ h4, at_plain (k := 2) (n := 0) (s := []) (by omega) (by unfold InR; omega) (Nat.zero_le _)⟩
end Go.Proofs.YtobgmbfoofkdeaaDoor

namespace Go.Proofs.YtobgmbfoofkdeaaDoor
open Go.RowKit

theorem ExV.later {W W' : World} {T j : Nat} {v : VD} {K xl xc s L : Nat} {N : Int} {z zs : ByteArray} {xa : Option Addr} (h : ExV W T j v K xl xc s L N z zs xa) (hb : Below W.heap.size W W') : ExV W' T j v K xl xc s L N z zs xa := by
  have hk : ∀ {p : Addr} {x : Value}, W.cell? p = some x → W'.cell? p = some x := fun hx => (hb.cell (World.block_lt_of_cell? _ _ hx)).trans hx
  exact ⟨hk h.c0, hk h.c1, hk h.c2, hk h.c3, hk h.c4, hk h.c5, h.val.later hb, h.right, h.bytes.kept fun k _ hk => hb.block k hk, h.len, h.shown⟩
theorem parsed_all {w : World} {v : VD} {e : Ending} {W : World} (h : ParsedV w v.bytes e W) (hr : v.right = true) (hf : v.Fits) : ∃ (K m c : Nat) (N : Int) (z : ByteArray) (a : Option Addr), e = .returned (.tuple #[.agg #[.int .u8 ((K : Nat) : Int), .int .i64 N, .string z, .slice a m c], .int .i64 0]) ∧ v.At (fun k => w.heap.size ≤ k) W (.agg #[.int .u8 ((K : Nat) : Int), .int .i64 N, .string z, .slice a m c]) := by
  have h0 := vreads_right (v := v) [] hr hf
  rw [List.append_nil] at h0
  rcases h with ⟨v', u, hv, hA, rfl⟩ | ⟨hN, _⟩
  · obtain ⟨rfl, _⟩ := hv.same h0
    obtain ⟨K, m, c, N, z, a, rfl⟩ := hA.form
    exact ⟨K, m, c, N, z, a, rfl, hA⟩
  · exact absurd h0 (hN v)
theorem right_light {v : VD} (h : v.right = true) : v.parts ≤ 1000000 ∧ v.deep ≤ 1000 := by
  have := (right_parts h).2.1
  have := (right_parts h).2.2
  exact ⟨by omega, by omega⟩

set_option maxRecDepth 100000 in
set_option maxHeartbeats 2000000 in
theorem awake_any (w : World) (hT : Tab w) : Calls Tryd.prog 9 #[] w fun e w' => e = .returned (.bool true) ∧ Below w.heap.size w w' := by
  have HTB := hide hT
  clear hT
  go_enter Tryd.func9, Tryd.ntmps9
  go_wp2_with fail
  refine (vNum_any 5 _).mono ?_
  rintro e w1 ⟨rfl, hb1⟩
  have HB1 := hide hb1
  clear hb1
  go_wp2_with fail
  refine (vText_any _ _).mono ?_
  rintro e w2 ⟨rfl, hb2⟩
  have HB2 : Hid (Below w.heap.size w w2 ∧ w2.heap[w1.heap.size]? = some (.cells #[.int .u8 0, .int .u8 10] 5 (0, 0))) := by
    have h := (unhide HB1).alloc (unhide HB1).size (.cells #[.int .u8 0, .int .u8 10] 5)
    have hg := heap_alloc_new w1 (.cells #[.int .u8 0, .int .u8 10] 5)
    exact ⟨h.trans (hb2.mono h.size), (hb2.block _ (lt_rowV hg)).trans hg⟩
  clear hb2 HB1
  go_wp2_with fail
  refine (vNum_any (-1) _).mono ?_
  rintro e w3 ⟨rfl, hb3⟩
  have HB3 : Hid (Below w.heap.size w w3 ∧ w3.heap[w1.heap.size]? = some (.cells #[.int .u8 0, .int .u8 10] 5 (0, 0)) ∧ w3.heap[w2.heap.size]? = some (.cells #[.int .u8 2, .int .u8 4, .int .u8 97, .int .u8 37] 5 (0, 0))) := by
    have h := (unhide HB2).1.alloc (unhide HB2).1.size (.cells #[.int .u8 2, .int .u8 4, .int .u8 97, .int .u8 37] 5)
    have hg := heap_alloc_new w2 (.cells #[.int .u8 2, .int .u8 4, .int .u8 97, .int .u8 37] 5)
    have h1 := (((Below.refl _ w2).alloc (Nat.le_refl _) (.cells #[.int .u8 2, .int .u8 4, .int .u8 97, .int .u8 37] 5)).block _ (lt_rowV (unhide HB2).2)).trans (unhide HB2).2
    exact ⟨h.trans (hb3.mono h.size), (hb3.block _ (lt_rowV h1)).trans h1, (hb3.block _ (lt_rowV hg)).trans hg⟩
  clear hb3 HB2
  go_wp2_with fail
  refine (vList_any none 0 0 _).mono ?_
  rintro e w4 ⟨rfl, hb4⟩
  have HB4 : Hid (Below w.heap.size w w4 ∧ w4.heap[w1.heap.size]? = some (.cells #[.int .u8 0, .int .u8 10] 5 (0, 0)) ∧ w4.heap[w2.heap.size]? = some (.cells #[.int .u8 2, .int .u8 4, .int .u8 97, .int .u8 37] 5 (0, 0))) :=
    ⟨(unhide HB3).1.trans (hb4.mono (unhide HB3).1.size), (hb4.block _ (lt_rowV (unhide HB3).2.1)).trans (unhide HB3).2.1, (hb4.block _ (lt_rowV (unhide HB3).2.2)).trans (unhide HB3).2.2⟩
  clear hb4 HB3
  go_wp2_with fail
  refine (vList_any _ _ _ _).mono ?_
  rintro e w5 ⟨rfl, hb5⟩
  have HB5 : Hid (Below w.heap.size w w5 ∧ w5.heap[w1.heap.size]? = some (.cells #[.int .u8 0, .int .u8 10] 5 (0, 0)) ∧ w5.heap[w2.heap.size]? = some (.cells #[.int .u8 2, .int .u8 4, .int .u8 97, .int .u8 37] 5 (0, 0)) ∧ w5.heap[w4.heap.size]? = some (.cells #[.int .u8 0, .int .i64 (-1), .string ⟨#[]⟩, .slice none 0 0, .int .u8 2, .int .i64 0, .string ⟨#[]⟩, .slice none 0 0] 24 (0, 0))) := by
    have h := (unhide HB4).1.alloc (unhide HB4).1.size (.cells #[.int .u8 0, .int .i64 (-1), .string ⟨#[]⟩, .slice none 0 0, .int .u8 2, .int .i64 0, .string ⟨#[]⟩, .slice none 0 0] 24)
    have hg := heap_alloc_new w4 (.cells #[.int .u8 0, .int .i64 (-1), .string ⟨#[]⟩, .slice none 0 0, .int .u8 2, .int .i64 0, .string ⟨#[]⟩, .slice none 0 0] 24)
    have ho := (Below.refl _ w4).alloc (Nat.le_refl _) (.cells #[.int .u8 0, .int .i64 (-1), .string ⟨#[]⟩, .slice none 0 0, .int .u8 2, .int .i64 0, .string ⟨#[]⟩, .slice none 0 0] 24)
    have h1 := (ho.block _ (lt_rowV (unhide HB4).2.1)).trans (unhide HB4).2.1
    have h2 := (ho.block _ (lt_rowV (unhide HB4).2.2)).trans (unhide HB4).2.2
    exact ⟨h.trans (hb5.mono h.size), (hb5.block _ (lt_rowV h1)).trans h1, (hb5.block _ (lt_rowV h2)).trans h2, (hb5.block _ (lt_rowV hg)).trans hg⟩
  clear hb5 HB4
  obtain ⟨w6, hw6⟩ : ∃ w6, w6 = w5.alloc (.cells #[.int .u8 4, .int .u8 4, .int .u8 0, .int .u8 1, .int .u8 4, .int .u8 0] 5) := ⟨_, rfl⟩
  obtain ⟨o7, ho7⟩ : ∃ o7 : Obj, o7 = (.cells #[.int .u8 0, .int .i64 5, .string ⟨#[]⟩, .slice none 0 0, .slice (some ⟨w1.heap.size, 0, none⟩) 2 2, .string ⟨#[53]⟩, .int .u8 1, .int .i64 0, .string ⟨#[97, 37]⟩, .slice none 0 0, .slice (some ⟨w2.heap.size, 0, none⟩) 4 4, .string ⟨#[34, 97, 37, 50, 53, 34]⟩, .int .u8 2, .int .i64 0, .string ⟨#[]⟩, .slice (some ⟨w4.heap.size, 0, none⟩) 2 2, .slice (some ⟨w5.heap.size, 0, none⟩) 6 6, .string ⟨#[91, 45, 49, 44, 91, 93, 93]⟩] 56) := ⟨_, rfl⟩
  obtain ⟨w7, hw7⟩ : ∃ w7, w7 = w6.alloc o7 := ⟨_, rfl⟩
  have hs6 : w6.heap.size = w5.heap.size + 1 := by rw [hw6]; simp
  have hb6 : Below w5.heap.size w5 w6 := by rw [hw6]; exact (Below.refl _ _).alloc (Nat.le_refl _) _
  have hb7 : Below w6.heap.size w6 w7 := by rw [hw7]; exact (Below.refl _ _).alloc (Nat.le_refl _) _
  have hb57 : Below w5.heap.size w5 w7 := hb6.trans (hb7.mono hb6.size)
  have hg6 : w6.heap[w5.heap.size]? = some (.cells #[.int .u8 4, .int .u8 4, .int .u8 0, .int .u8 1, .int .u8 4, .int .u8 0] 5 (0, 0)) := by rw [hw6]; exact heap_alloc_new _ _
  have hg7 : w7.heap[w5.heap.size + 1]? = some o7 := by rw [hw7, ← hs6]; exact heap_alloc_new _ _
  rw [ho7] at hg7
  have HTA : Hid (∀ j, j < 3 → ∃ v K xl xc s L N z zs xa, ExV w7 (w5.heap.size + 1) j v K xl xc s L N z zs xa) := fun j hj =>
    ex_table hg7 ((hb57.block _ (lt_rowV (unhide HB5).2.1)).trans (unhide HB5).2.1) ((hb57.block _ (lt_rowV (unhide HB5).2.2.1)).trans (unhide HB5).2.2.1) ((hb7.block _ (lt_rowV hg6)).trans hg6) ((hb57.block _ (lt_rowV (unhide HB5).2.2.2)).trans (unhide HB5).2.2.2) j hj
  have HB7 : Hid (Below w.heap.size w w7) := (unhide HB5).1.trans (hb57.mono (unhide HB5).1.size)
  rw [hw6, ho7] at hw7
  have HW7 := hide hw7
  clear hw6 hw7 ho7 hs6 hb6 hb7 hb57 hg6 hg7 HB5
  go_upto_region 2 with fail
  rw [← unhide HW7]
  clear HW7
  go_loopw [28] (fun i W => ∃ j : Nat, j ≤ 3 ∧ i = .int .i64 ((j : Nat) : Int) ∧ Below w7.heap.size w7 W) (fun i _ => 3 - (intOf i).toNat)
  case atStart => exact ⟨0, by omega, rfl, Below.refl _ _⟩
  case round =>
    obtain ⟨j, hj, rfl, hb⟩ := hrel
    have HB := hide hb
    clear hb
    by_cases hlt : j < 3
    · obtain ⟨v, K, xl, xc, s, L, N, z, zs, xa, hE0⟩ := unhide HTA j hlt
      have hE := hE0.later (unhide HB)
      have hji : ((j : Nat) : Int) < 3 := by omega
      obtain ⟨W2, hW2⟩ : ∃ W2, W2 = wr.alloc (.cells #[.int .u8 ((K : Nat) : Int), .int .i64 N, .string z, .slice xa xl xc, .slice (some ⟨s, 0, none⟩) L L, .string zs] 56) := ⟨_, rfl⟩
      have hb2 : Below wr.heap.size wr W2 := by rw [hW2]; exact (Below.refl _ _).alloc (Nat.le_refl _) _
      have hr2 : W2.heap[wr.heap.size]? = some (.cells #[.int .u8 ((K : Nat) : Int), .int .i64 N, .string z, .slice xa xl xc, .slice (some ⟨s, 0, none⟩) L L, .string zs] 56 (0, 0)) := by rw [hW2]; exact heap_alloc_new _ _
      have hE2 := hE.later hb2
      have c0 := hE.c0
      have c1 := hE.c1
      have c2 := hE.c2
      have c3 := hE.c3
      have c4 := hE.c4
      have c5 := hE.c5
      have d0 : W2.cell? ⟨wr.heap.size, 0, none⟩ = some (.int .u8 ((K : Nat) : Int)) := cell_of_row _ _ 0 _ _ _ hr2
      have d1 : W2.cell? ⟨wr.heap.size, 1, none⟩ = some (.int .i64 N) := cell_of_row _ _ 1 _ _ _ hr2
      have d2 : W2.cell? ⟨wr.heap.size, 2, none⟩ = some (.string z) := cell_of_row _ _ 2 _ _ _ hr2
      have d3 : W2.cell? ⟨wr.heap.size, 3, none⟩ = some (.slice xa xl xc) := cell_of_row _ _ 3 _ _ _ hr2
      have d4 : W2.cell? ⟨wr.heap.size, 4, none⟩ = some (.slice (some ⟨s, 0, none⟩) L L) := cell_of_row _ _ 4 _ _ _ hr2
      have d5 : W2.cell? ⟨wr.heap.size, 5, none⟩ = some (.string zs) := cell_of_row _ _ 5 _ _ _ hr2
      have HE2 := hide hE2
      have HW2 := hide hW2
      have HR2 := hide hr2
      have HB2 : Hid (Below w7.heap.size w7 W2) := (unhide HB).trans (hb2.mono (unhide HB).size)
      clear hE0 hE hW2 hr2 hb2 hE2
      go_upto_region 4 with fail
      rw [← unhide HW2]
      clear HW2 c0 c1 c2 c3 c4 c5
      go_wp2_with fail
      refine (vBytes_any v _ _ W2 (unhide HE2).val).mono ?_
      rintro e W3 (⟨_, r3, rfl, hO⟩ | ⟨hf, _⟩)
      case inr => rw [(unhide HE2).right] at hf; cases hf
      obtain ⟨ra, rc, rfl, _⟩ := hO.fresh.1.1.form
      obtain ⟨vl, hvl⟩ : ∃ vl, vl = v.bytes.length := ⟨_, rfl⟩
      rw [← hvl] at hO ⊢
      have hk3 : ∀ {p : Addr} {x : Value}, W2.cell? p = some x → W3.cell? p = some x := fun hx => (hO.bb.cell (World.block_lt_of_cell? _ _ hx)).trans hx
      have e0 := hk3 d0
      have e1 := hk3 d1
      have e2 := hk3 d2
      have e3 := hk3 d3
      have e4 := hk3 d4
      have e5 := hk3 d5
      have HE3 := hide ((unhide HE2).later hO.bb)
      have HV3 : Hid (Bytes W3 (.slice ra vl rc) v.bytes) := hO.fresh.1.1
      have HB3 : Hid (Below w7.heap.size w7 W3) := (unhide HB2).trans (hO.bb.mono (unhide HB2).size)
      clear hO hvl hk3 d0 d1 d2 d3 d4 d5
      go_wp2_with fail
      refine (vParse_any _ L L v.bytes W3 (unhide HE3).bytes (by have := (unhide HE3).len; omega)).mono ?_
      rintro e W4 ⟨hpp, hb4⟩
      obtain ⟨pK, pm, pc, pN, pz, pa, rfl, hAt⟩ := parsed_all hpp (unhide HE3).right (unhide HE3).val.fits
      obtain ⟨W5, hW5⟩ : ∃ W5, W5 = W4.alloc (.cells #[.int .u8 ((pK : Nat) : Int), .int .i64 pN, .string pz, .slice pa pm pc] 24) := ⟨_, rfl⟩
      have hb5 : Below W4.heap.size W4 W5 := by rw [hW5]; exact (Below.refl _ _).alloc (Nat.le_refl _) _
      have hr5 : W5.heap[W4.heap.size]? = some (.cells #[.int .u8 ((pK : Nat) : Int), .int .i64 pN, .string pz, .slice pa pm pc] 24 (0, 0)) := by rw [hW5]; exact heap_alloc_new _ _
      have hb35 : Below W3.heap.size W3 W5 := hb4.trans (hb5.mono hb4.size)
      obtain ⟨⟨i0, i1, i2, i3⟩, -⟩ := cells4 hr5
      have hk5 : ∀ {p : Addr} {x : Value}, W3.cell? p = some x → W5.cell? p = some x := fun hx => (hb35.cell (World.block_lt_of_cell? _ _ hx)).trans hx
      have f0 := Later.cell (hk5 e0)
      have f1 := Later.cell (hk5 e1)
      have f2 := Later.cell (hk5 e2)
      have f3 := Later.cell (hk5 e3)
      have f4 := Later.cell (hk5 e4)
      have f5 := Later.cell (hk5 e5)
      have g0 := Later.cell i0
      have g1 := Later.cell i1
      have g2 := Later.cell i2
      have g3 := Later.cell i3
      have HE5 := hide ((unhide HE3).later hb35)
      have HV5 : Hid (Bytes W5 (.slice ra vl rc) v.bytes) := (unhide HV3).kept fun k _ hk => hb35.block k hk
      have HA5 := hide (hAt.later hb5)
      have HB5 : Hid (Below w7.heap.size w7 W5) := (unhide HB3).trans (hb35.mono (unhide HB3).size)
      have HTB5 : Hid (∀ W, Below W5.heap.size W5 W → Tab W) := fun W hW => ((unhide HTB).later ((unhide HB7).trans ((unhide HB5).mono (unhide HB7).size))).later hW
      have HC1 : Hid (∀ W, Below W5.heap.size W5 W → Calls Tryd.prog 17 #[.slice ra vl rc, .slice (some ⟨s, 0, none⟩) L L] W fun e w' => e = .returned (.bool true) ∧ w' = W) := fun W hW => wSame_true _ _ v.bytes W ((unhide HV5).kept fun k _ hk => hW.block k hk) ((unhide HE5).bytes.kept fun k _ hk => hW.block k hk)
      have HC2 : Hid (∀ W, Below W5.heap.size W5 W → Calls Tryd.prog 15 #[.agg #[.int .u8 ((pK : Nat) : Int), .int .i64 pN, .string pz, .slice pa pm pc], .agg #[.int .u8 ((K : Nat) : Int), .int .i64 N, .string z, .slice xa xl xc]] W fun e w' => e = .returned (.bool true) ∧ Below W.heap.size W w') := fun W hW => (same_any v v _ _ _ _ W ((unhide HA5).later hW) ((unhide HE5).val.later hW) (right_light (unhide HE5).right).1 (right_light (unhide HE5).right).2).mono fun e w' h => by rw [(VD.same_iff v v).2 rfl] at h; exact h
      have HC3 : Hid (∀ W, Below W5.heap.size W5 W → Calls Tryd.prog 19 #[.agg #[.int .u8 ((K : Nat) : Int), .int .i64 N, .string z, .slice xa xl xc]] W fun e w' => e = .returned (.string zs) ∧ Below W.heap.size W w') := fun W hW => (vShow_any v _ _ W ((unhide HE5).val.later hW) (unhide HE5).right (unhide HTB5 W hW)).mono fun e w' h => by rw [(unhide HE5).shown]; exact h
      have HW5 := hide hW5
      have hne : Nonempty (Later W5) := ⟨⟨W5, Below.refl _ _⟩⟩
      clear hpp hb4 hAt hW5 hb5 hr5 hb35 hk5 e0 e1 e2 e3 e4 e5 i0 i1 i2 i3 HE3 HV3 HB3 HE2 HR2 HB2
      go_upto_region 6 with fail
      rw [← unhide HW5]
      clear HW5
      go_cut [71] (fun v wx => v = .bool false ∧ Below W5.heap.size W5 wx)
      case first =>
        refine wp_region_later (by kernel_rfl) ?_
        repeat (go_big_quiet_step ((rename_i q; first
          | (go_at_call 17; refine (unhide HC1 _ q.2).mono ?_; rintro e w11 ⟨rfl, hw11⟩; exact ⟨rfl, q.same hw11⟩)
          | (go_at_call 15; refine (unhide HC2 _ q.2).mono ?_; rintro e w11 ⟨rfl, hb11⟩; exact ⟨rfl, q.then hb11⟩)
          | (go_at_call 19; refine (unhide HC3 _ q.2).mono ?_; rintro e w11 ⟨rfl, hb11⟩; exact ⟨rfl, q.then hb11⟩))))
        refine wpQuiet_nil ?_
        rintro _ ⟨q, rfl⟩
        have HFIN : Hid (Below W5.heap.size W5 q.1) := q.2
        generalize q.1 = W20 at *
        go_wp2_with fail
        go_meet
        exact ⟨rfl, unhide HFIN⟩
      obtain ⟨rfl, hbw⟩ := hcut
      have HBW := hide ((unhide HB5).trans (hbw.mono (unhide HB5).size))
      clear hbw f0 f1 f2 f3 f4 f5 g0 g1 g2 g3 hne
      go_wp2_with fail
      exact ⟨⟨j + 1, by omega, by go_num, unhide HBW⟩, by simp [intOf]; omega⟩
    · have e7 : j = 3 := by omega
      subst e7
      have HBW := hide ((unhide HB7).trans ((unhide HB).mono (unhide HB7).size))
      clear HB HTA HB7
      go_wp2_with fail
      have h1 : Bytes (wr.alloc (.cells #[.int .u8 6] 5)) (.slice (some ⟨wr.heap.size, 0, none⟩) 1 1) [6] := bytes_blockV (bs := [6]) (heap_alloc_new wr _) rfl (by decide)
      refine (vParse_any _ 1 1 _ _ h1 (by omega)).mono ?_
      rintro e W2 ⟨hp, hb2⟩
      obtain rfl : e = .returned (.tuple #[zeroV, .int .i64 30]) := by
        rcases hp with ⟨v, u, hv, _⟩ | ⟨_, rfl⟩
        · exact absurd hv (ex_six _ _)
        · rfl
      have HB2 := hide ((((unhide HBW).alloc (unhide HBW).size _)).trans (hb2.mono (by have := (unhide HBW).size; simp; omega)))
      clear h1 hp hb2 HBW
      rw [zeroV]
      go_wp2_with fail
      obtain ⟨W3, hW3⟩ : ∃ W3, W3 = W2.alloc (.cells #[.int .u8 0, .int .i64 0, .string ⟨#[]⟩, .slice none 0 0] 24) := ⟨_, rfl⟩
      have HB3 : Hid (Below w.heap.size w W3) := by rw [hW3]; exact (unhide HB2).alloc (unhide HB2).size _
      rw [show (W2.heap.size + 1 : Nat) = W3.heap.size by rw [hW3]; simp]
      rw [← hW3]
      clear hW3 HB2
      have h1 : Bytes (W3.alloc (.cells #[.int .u8 0, .int .u8 10, .int .u8 0] 5)) (.slice (some ⟨W3.heap.size, 0, none⟩) 3 3) [0, 10, 0] := bytes_blockV (bs := [0, 10, 0]) (heap_alloc_new W3 _) rfl (by decide)
      refine (vTake_any _ 3 3 _ _ h1 (by omega)).mono ?_
      rintro e W4 ⟨hp, hb4⟩
      obtain ⟨xK, xl, xc, xN, xz, xa, ra, rc, rfl⟩ : ∃ (xK xl xc : Nat) (xN : Int) (xz : ByteArray) (xa ra : Option Addr) (rc : Nat), e = .returned (.tuple #[.agg #[.int .u8 ((xK : Nat) : Int), .int .i64 xN, .string xz, .slice xa xl xc], .slice ra 1 rc, .int .i64 0]) := by
        rcases hp with ⟨v, jj, u, ra, rc, hv, hA, _, rfl⟩ | ⟨hN, _⟩
        · obtain ⟨_, rfl⟩ := hv.same ex_three
          obtain ⟨xK, xl, xc, xN, xz, xa, rfl⟩ := hA.form
          exact ⟨xK, xl, xc, xN, xz, xa, ra, rc, rfl⟩
        · exact absurd ex_three (hN _ _)
      have HB4 := hide ((((unhide HB3).alloc (unhide HB3).size _)).trans (hb4.mono (by have := (unhide HB3).size; simp; omega)))
      clear h1 hp hb4 HB3
      go_wp2_with fail
      obtain ⟨W5, hW5⟩ : ∃ W5, W5 = W4.alloc (.cells #[.int .u8 ((xK : Nat) : Int), .int .i64 xN, .string xz, .slice xa xl xc] 24) := ⟨_, rfl⟩
      have HB5 : Hid (Below w.heap.size w W5) := by rw [hW5]; exact (unhide HB4).alloc (unhide HB4).size _
      rw [show (W4.heap.size + 1 : Nat) = W5.heap.size by rw [hW5]; simp]
      rw [← hW5]
      clear hW5 HB4
      have h1 : Bytes (W5.alloc (.cells #[.int .u8 0, .int .u8 10, .int .u8 0] 5)) (.slice (some ⟨W5.heap.size, 0, none⟩) 3 3) [0, 10, 0] := bytes_blockV (bs := [0, 10, 0]) (heap_alloc_new W5 _) rfl (by decide)
      refine (vParse_any _ 3 3 _ _ h1 (by omega)).mono ?_
      rintro e W6 ⟨hp, hb6⟩
      obtain rfl : e = .returned (.tuple #[zeroV, .int .i64 30]) := by
        rcases hp with ⟨v, u, hv, _⟩ | ⟨_, rfl⟩
        · have := (hv.same ex_three).2
          simp at this
        · rfl
      have HB6 := hide ((((unhide HB5).alloc (unhide HB5).size _)).trans (hb6.mono (by have := (unhide HB5).size; simp; omega)))
      have HBF := hide ((unhide HB6).alloc (unhide HB6).size (.cells #[.int .u8 0, .int .i64 0, .string ⟨#[]⟩, .slice none 0 0] 24))
      clear h1 hp hb6 HB5
      rw [zeroV]
      go_wp2_with fail
      go_ret
      exact ⟨rfl, unhide HBF⟩
end Go.Proofs.YtobgmbfoofkdeaaDoor

namespace Go.Proofs.YtobgmbfoofkdeaaDoor
open Go.ChangeShapes Go.WideShapes Go.ChangeAt Go.RowKit

/-- The listed variables and what they hold. -/
def laid3 : List (String × DataW Unit) := [("math/bits.deBruijn32tab", Rows.laid_math_bits_deBruijn32tab), ("math/bits.deBruijn64tab", Rows.laid_math_bits_deBruijn64tab), ("internal/strconv.uint64pow10", Rows.laid_internal_strconv_uint64pow10)]
theorem gPow : Tryd.prog.globalNamed "internal/strconv.uint64pow10" = some 0 := by kernel_rfl
theorem tPow : (Tryd.prog.globals[0]?).map (·.type) = some 113 := by kernel_rfl
theorem tab_of_laid {W : World} (h : laidMetH Tryd.prog laid3 W) : Tab W := by
  rw [MakeChecks.laidMetH_plain _ _ _ (by kernel_rfl)] at h
  obtain ⟨ps, ⟨g0, t0, cs0, f0, p0, q0, hg0, ht0, hv0, hd0, ⟨g1, t1, cs1, f1, p1, q1, hg1, ht1, hv1, hd1, ⟨g2, t2, cs2, f2, p2, q2, hg2, ht2, hv2, hd2, _, _⟩, _⟩, _⟩, _, _⟩ := h
  obtain rfl := Option.some.inj (gPow.symm.trans hg2)
  obtain rfl := Option.some.inj (tPow.symm.trans ht2)
  have hl : (Rows.laid_internal_strconv_uint64pow10 : DataW Unit) = Lib.tabData .u64 Lib.pow10Tab := by kernel_rfl
  rw [hl] at hd2
  unfold Tab Lib.TabIs
  rw [hv2, ← Lib.cells_of_tab Tryd.underlying113 Tryd.underlying64 (by kernel_rfl) (by kernel_rfl) hd2]
theorem door_met (os : Os) (args : Array Value) : laidMetH Tryd.prog laid3 ((World.doorLaid Tryd.prog 400 os).forCall (fun _ _ => 0) ⟨#[], args, []⟩).memory :=
  laidMetH_of_parts3 (fuel := 8) (laidMet_of_run' 8 (by kernel_rfl) (by kernel_rfl)) (by kernel_rfl) (by kernel_rfl)
end Go.Proofs.YtobgmbfoofkdeaaDoor
