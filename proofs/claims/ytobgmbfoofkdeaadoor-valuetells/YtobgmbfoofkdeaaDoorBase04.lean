/- WireRefT, Gen2, WireRefS: our own definitions and contracts; no statement of the seat is proved here. -/
import Derived.Test.YtobgmbfoofkdeaaDoorBase01
import Derived.Test.YtobgmbfoofkdeaaDoorBase00
namespace Go.Proofs.YtobgmbfoofkdeaaDoor
open Go.RowKit

/-- What the document's TakeNum tells of bytes. -/
def RefNum (bs : List UInt8) (e : Ending) : Prop :=
  (∃ (x : Int) (k : Nat), Reads bs x k ∧ e = .returned (.tuple #[.int .i64 x, .int .i64 ((k : Nat) : Int)])) ∨ (NoNum bs ∧ e = .returned (.tuple #[.int .i64 0, .int .i64 0]))

theorem pow128_le {j : Nat} (h : j ≤ 9) : 128 ^ j ≤ 9223372036854775808 := by
  have h1 := Nat.pow_le_pow_right (n := 128) (by omega) h
  have h2 : (128 ^ 9 : Nat) = 9223372036854775808 := by decide
  omega

set_option maxRecDepth 100000 in
set_option maxHeartbeats 4000000 in
theorem wRefTakeNum_any (u : Value) (bs : List UInt8) (w : World) (h : Bytes w u bs) (hl : bs.length ≤ 1048576) : Calls Tryd.prog 61 #[u] w fun e w' => RefNum bs e ∧ w' = w := by
  obtain ⟨a, c, rfl, hlc⟩ := h.form
  obtain ⟨n, hn⟩ : ∃ n, n = bs.length := ⟨_, rfl⟩
  rw [← hn] at h hlc hl ⊢
  have HH := hide h
  have HN := hide hn
  clear h hn
  go_enter Tryd.func61, Tryd.ntmps61
  go_wp2
  go_loopw [4, 5, 6] (fun u v k W => ∃ j U V : Nat, j ≤ n ∧ j ≤ 10 ∧ k = .int .i64 j ∧ u = .int .u64 ((U : Nat) : Int) ∧ v = .int .u64 ((V : Nat) : Int) ∧ Highs (bs.take j) ∧ (j ≤ 9 → U = val (bs.take j) ∧ V = 128 ^ j) ∧ W = w) (fun _ _ k _ => n - (intOf k).toNat)
  case atStart => exact ⟨0, 0, 1, by omega, by omega, rfl, rfl, rfl, fun x hx => by simp at hx, fun _ => ⟨by simp [val], rfl⟩, rfl⟩
  case round =>
    obtain ⟨j, U, V, hj, hj10, rfl, rfl, rfl, hH, hUV, hw⟩ := hrel
    rw [hw]
    clear hw
    have HHI := hide hH
    by_cases hlt : j < n
    · by_cases h9 : j ≤ 9
      · obtain ⟨hU, hV⟩ := hUV h9
        have hl1 : (bs.take j).length = j := by rw [List.length_take]; have := unhide HN; omega
        have hUV2 := val_lt (bs.take j)
        rw [hl1, ← hU, ← hV] at hUV2
        have hVm : V ≤ 9223372036854775808 := by rw [hV]; exact pow128_le h9
        have hV8 : j ≤ 8 → V ≤ 72057594037927936 := fun h8 => by
          rw [hV]
          have h1 := Nat.pow_le_pow_right (n := 128) (by omega) h8
          have h2 : (128 ^ 8 : Nat) = 72057594037927936 := by decide
          omega
        have hVs : 128 ^ (j + 1) = V * 128 := by rw [hV, Nat.pow_succ]
        have HVS := hide hVs
        obtain ⟨ad, rfl, hc⟩ := (unhide HH).at hlt (unhide HN).symm
        have hk1 : (j : Int) < (n : Int) := by omega
        have hk2 : (j : Int) < 10 := by omega
        have HP : Hid (bs = bs.take j ++ bs.getD j 0 :: bs.drop (j + 1)) := by
          show _ = _
          rw [List.getD_eq_getElem?_getD, List.getElem?_eq_getElem (by have := unhide HN; omega), Option.getD_some, ← List.drop_eq_getElem_cons, List.take_append_drop]
        have HSU : Hid (bs.take (j + 1) = bs.take j ++ [bs.getD j 0]) := by
          show _ = _
          rw [List.getD_eq_getElem?_getD, List.getElem?_eq_getElem (by have := unhide HN; omega), List.take_succ_eq_append_getElem (by have := unhide HN; omega)]
          rfl
        have HL1 := hide hl1
        have HU := hide hU
        have HV := hide hV
        clear hU hV hUV hH hl1 hVs
        generalize hyy : bs.getD j 0 = y at *
        have hyb := y.toNat_lt
        obtain ⟨x, hx⟩ : ∃ x, x = y.toNat % 128 := ⟨_, rfl⟩
        have hxc : ((y.toNat : Nat) : Int) % 128 = ((x : Nat) : Int) := by omega
        have hx128 : x < 128 := by omega
        have HX := hide hx
        clear hx hyy
        by_cases hbig : j = 9 ∧ 1 < x
        · obtain ⟨hj9, h1x⟩ := hbig
          have hx1 : decide (((x : Nat) : Int) > 1) = true := decide_eq_true (by omega)
          have hb9 : (((j : Nat) : Int) == 9) = true := by rw [beq_iff_eq]; omega
          have HJ9 := hide hj9
          have H1X := hide h1x
          clear hj9 h1x
          go_wp2_with fail
          go_ret2
          refine ⟨.inr ⟨?_, rfl⟩, rfl⟩
          by_cases hy : y.toNat < 128
          · rw [unhide HP]
            exact noNum_big (unhide HHI) (by have := unhide HX; have := unhide H1X; omega) hy (by rw [unhide HL1]; exact unhide HJ9)
          · refine noNum_highs (k := j + 1) ?_ (.inl (by have := unhide HJ9; omega))
            rw [unhide HSU]
            intro z hz
            rcases List.mem_append.1 hz with h1 | h1
            · exact unhide HHI z h1
            · rw [List.mem_singleton.1 h1]; omega
        · have HPX : Hid (x * V ≤ 9223372036854775808 * 127 ∧ U + x * V < 18446744073709551616) := by
            show _ ∧ _
            by_cases h8 : j ≤ 8
            · have h1 := hV8 h8
              have h2 : x * V ≤ 127 * V := Nat.mul_le_mul_right _ (by omega)
              omega
            · have h9 : j = 9 := by omega
              have h1 : x ≤ 1 := by omega
              have h2 : x * V ≤ 1 * V := Nat.mul_le_mul_right _ h1
              omega
          obtain ⟨P, hP⟩ : ∃ P, P = x * V := ⟨_, rfl⟩
          have hpi : ((x : Nat) : Int) * ((V : Nat) : Int) = ((P : Nat) : Int) := by rw [hP, Int.natCast_mul]
          rw [← hP] at HPX
          have hp1 := (unhide HPX).1
          have hp2 := (unhide HPX).2
          have HPD := hide hP
          clear hP
          obtain ⟨S, hS⟩ : ∃ S, S = U + P := ⟨_, rfl⟩
          have hsi : ((U : Nat) : Int) + ((P : Nat) : Int) = ((S : Nat) : Int) := by omega
          have hs64 : S < 18446744073709551616 := by omega
          have HUP : Hid (S = val (bs.take j ++ [y])) := by
            show _ = _
            rw [hS, val_append, unhide HL1, ← unhide HU, ← unhide HV]
            simp only [val]
            rw [Nat.mul_zero, Nat.add_zero, ← unhide HX, unhide HPD, Nat.mul_comm]
          obtain ⟨V2, hV2, hwV⟩ : ∃ V2 : Nat, (j ≤ 8 → V2 = 128 ^ (j + 1)) ∧ IntKind.u64.wrap (((V : Nat) : Int) * 128) = ((V2 : Nat) : Int) := by
            refine ⟨V * 128 % 18446744073709551616, fun h8 => ?_, ?_⟩
            · have := hV8 h8
              rw [unhide HVS]
              omega
            · rw [IntKind.wrap_u64]; omega
          have HV2 := hide hV2
          have HBIG := hide hbig
          have HS64 := hide hs64
          have hor : (j = 9 ∧ (((j : Nat) : Int) == 9) = true ∧ decide (((x : Nat) : Int) > 1) = false) ∨ (¬ j = 9 ∧ (((j : Nat) : Int) == 9) = false) := by
            by_cases h : j = 9
            · exact .inl ⟨h, by rw [beq_iff_eq]; omega, decide_eq_false (by omega)⟩
            · exact .inr ⟨h, by rw [beq_eq_false_iff_ne]; omega⟩
          have hpu : P < 18446744073709551616 := by omega
          clear hbig hV2 hS hp1 hp2 hUV2 hVm hV8
          have hwj : IntKind.i64.wrap (((j : Nat) : Int) + 1) = ((j : Nat) : Int) + 1 := by rw [IntKind.wrap_i64]; omega
          rcases hor with ⟨hj9, h9i, hx1⟩ | ⟨hj9, h9i⟩
          all_goals (
            have HJ9 := hide hj9
            clear hj9
            by_cases hy : y.toNat < 128
            · have hyi : ¬ ((y.toNat : Nat) : Int) ≥ 128 := by omega
              by_cases hz : x = 0 ∧ 0 < j
              · have hz1 : (((x : Nat) : Int) == 0) = true := by rw [beq_iff_eq]; omega
                have hz2 : decide (((j : Nat) : Int) > 0) = true := decide_eq_true (by omega)
                have hz2n : decide (0 < j) = true := decide_eq_true (by omega)
                have HZ := hide hz
                clear hz
                go_wp2_with fail
                go_ret2
                refine ⟨.inr ⟨?_, rfl⟩, rfl⟩
                rw [unhide HP]
                refine noNum_zero (unhide HHI) (by have := unhide HX; have := (unhide HZ).1; omega) (fun e => ?_)
                have h1 := unhide HL1
                rw [e] at h1
                have := (unhide HZ).2
                simp at h1
                omega
              · have hzo : ((((x : Nat) : Int) == 0) = true ∧ decide (((j : Nat) : Int) > 0) = false ∧ decide (0 < j) = false) ∨ (((x : Nat) : Int) == 0) = false := by
                  by_cases h : x = 0
                  · exact .inl ⟨by rw [beq_iff_eq]; omega, decide_eq_false (by omega), decide_eq_false (by omega)⟩
                  · exact .inr (by rw [beq_eq_false_iff_ne]; omega)
                have HZ := hide hz
                clear hz
                have HRD : Hid (Reads bs (unz S) (j + 1)) := by
                  have h1 := Reads.made (p := bs.take j) (y := y) (r := bs.drop (j + 1)) (unhide HHI) hy (by
                    by_cases h : x = 0
                    · have hj0 : j = 0 := Nat.eq_zero_of_not_pos fun h' => unhide HZ ⟨h, h'⟩
                      exact .inl (by rw [hj0]; rfl)
                    · exact .inr (by have := unhide HX; omega)) (by
                    rw [unhide HL1]
                    by_cases h : j = 9
                    · refine .inr ⟨h, ?_⟩
                      have h2 : ¬ 1 < x := fun h' => unhide HBIG ⟨h, h'⟩
                      have := unhide HX
                      omega
                    · exact .inl (by omega))
                  rw [← unhide HP, ← unhide HUP, unhide HL1] at h1
                  exact h1
                rcases hzo with ⟨hz1, hz2, hz2n⟩ | hz1 <;> by_cases hodd : S % 2 = 0
                all_goals (
                  first
                  | (have ho : ((S : Nat) : Int) % 2 = 0 := by omega
                     have HUZ : Hid (unz S = ((S / 2 : Nat) : Int)) := by show _ = _; unfold unz; rw [if_neg (by omega)])
                  | (have ho : ¬ ((S : Nat) : Int) % 2 = 0 := by omega
                     have HUZ : Hid (unz S = -((S / 2 : Nat) : Int) - 1) := by show _ = _; unfold unz; rw [if_pos (by omega)])
                  clear hodd
                  go_wp2_with fail
                  go_ret2
                  refine ⟨.inl ⟨_, _, unhide HRD, ?_⟩, rfl⟩
                  rw [unhide HUZ]
                  simp)
            · have hyi : ((y.toNat : Nat) : Int) ≥ 128 := by omega
              go_wp2_with fail
              refine ⟨⟨j + 1, S, V2, by omega, by omega, by go_num, rfl, rfl, ?_, fun h8 => ⟨?_, unhide HV2 (by omega)⟩, trivial⟩, by simp [intOf]; omega⟩
              · rw [unhide HSU]
                intro z hz
                rcases List.mem_append.1 hz with h1 | h1
                · exact unhide HHI z h1
                · rw [List.mem_singleton.1 h1]; omega
              · rw [unhide HSU]; exact unhide HUP)
      · have hj' : j = 10 := by omega
        have hk2 : ¬ ((j : Nat) : Int) < 10 := by omega
        have hk1 : ((j : Nat) : Int) < ((n : Nat) : Int) := by omega
        have HJ := hide hj'
        clear hj' hUV h9 hlt
        go_wp2_with fail
        go_ret2
        exact ⟨.inr ⟨noNum_highs (unhide HHI) (.inl (unhide HJ)), rfl⟩, rfl⟩
    · have e : j = n := by omega
      have hk1 : ¬ ((j : Nat) : Int) < ((n : Nat) : Int) := by omega
      have HE := hide e
      clear e hUV hlt
      go_wp2_with fail
      go_ret2
      exact ⟨.inr ⟨noNum_highs (unhide HHI) (.inr (by have := unhide HE; have := unhide HN; omega)), rfl⟩, rfl⟩
end Go.Proofs.YtobgmbfoofkdeaaDoor

namespace Go.Proofs.YtobgmbfoofkdeaaDoor
open Go.RowKit

/-- b[l:h]: its value, whatever the world, and its bytes. -/
theorem slice_mid {w : World} {a : Option Addr} {n c l h : Nat} {bs : List UInt8} (hb : Bytes w (.slice a n c) bs) (h1 : l ≤ h) (h2 : h ≤ n) : ∃ sa sc, Bytes w (.slice sa (h - l) sc) ((bs.drop l).take (h - l)) ∧ (∀ W : World, (Instr.slice 25 (.slice a n c) (some (.int .i64 (l : Nat))) (some (.int .i64 (h : Nat))) none).run Tryd.prog W = .ok (.slice sa (h - l) sc) W) ∧ (∀ W : World, (Instr.sliceAt 25 (.slice a n c) (some (.int .i64 (l : Nat))) (some (.int .i64 (h : Nat))) none).run Tryd.prog W = .ok (.slice sa (h - l) sc) W) ∧ (∀ k, (Value.slice sa (h - l) sc).ownBlock = some k → (Value.slice a n c).ownBlock = some k) := by
  obtain ⟨hl, hnc⟩ := bytes_len hb
  have hu : Tryd.prog.underlying 25 = some (.slice 5) := Tryd.underlying25
  have hel : Tryd.prog.elem 25 = 5 := by unfold Program.elem; rw [hu]
  have hu' : Tryd.prog.underlying 25 = some (.slice (Tryd.prog.elem 25)) := by rw [hel]; exact hu
  have hr : ∀ W : World, (Instr.slice 25 (.slice a n c) (some (.int .i64 (l : Nat))) (some (.int .i64 (h : Nat))) none).run Tryd.prog W = .ok (.slice (if c = l then a else a.map (·.add l)) (h - l) (c - l)) W := fun W => by
    rw [run_slice_lh W 25 a n c hu' .i64 .i64 l h (by omega) (by omega) (by omega), hel]
    have hsz : (sizeOf 5).run Tryd.prog W = .ok 1 W := by simp [sizeOf]; rfl
    rw [hsz]
    simp only [Result.andThen, sliced, Int.toNat_natCast, Nat.mul_one]
  refine ⟨_, _, ?_, hr, fun W => by rw [run_sliceAt_slice W _ _ _ _ _ hu']; exact hr W, fun k hk => ?_⟩
  · have hdl : ((bs.drop l).take (h - l)).length = h - l := by rw [List.length_take, List.length_drop]; omega
    rcases hb with ⟨hv, hbn⟩ | ⟨ad, c', hv, hl1, hl2, hbb⟩
    · simp only [Value.slice.injEq] at hv
      obtain ⟨rfl, hn, rfl⟩ := hv
      have e1 : l = 0 := by omega
      have e2 : h = 0 := by omega
      subst e1 e2
      exact .inl ⟨by simp, by rw [hbn]; simp⟩
    · simp only [Value.slice.injEq] at hv
      obtain ⟨rfl, _, rfl⟩ := hv
      by_cases hc : c = l
      · rw [if_pos hc]
        have e0 : h - l = 0 := by omega
        rw [e0]
        exact .inr ⟨ad, c - l, rfl, Nat.zero_le _, by omega, fun j x hx => by simp at hx⟩
      · rw [if_neg hc]
        refine .inr ⟨ad.add l, c - l, by rw [hdl]; rfl, by rw [hdl]; omega, by omega, fun j x hx => ?_⟩
        have hj : j < h - l := by have := (List.getElem?_eq_some_iff.1 hx).1; rw [List.length_map, hdl] at this; exact this
        have := hbb (l + j) x (by rw [List.map_take, List.map_drop, List.getElem?_take, if_pos hj, List.getElem?_drop] at hx; exact hx)
        rwa [Addr.add_add]
  · split at hk
    · cases a <;> exact hk
    · cases a with
      | none => cases hk
      | some ad =>
        have e : (ad.add l).block = ad.block := add_block ad l
        have hk' : some (ad.add l).block = some k := hk
        rw [e] at hk'
        exact hk'

/-- b[:h]: its value, whatever the world, and its bytes. -/
theorem slice_to {w : World} {a : Option Addr} {n c h : Nat} {bs : List UInt8} (hb : Bytes w (.slice a n c) bs) (h1 : h ≤ n) : ∃ sa sc, Bytes w (.slice sa h sc) (bs.take h) ∧ (∀ W : World, (Instr.slice 25 (.slice a n c) none (some (.int .i64 (h : Nat))) none).run Tryd.prog W = .ok (.slice sa h sc) W) ∧ (∀ W : World, (Instr.sliceAt 25 (.slice a n c) none (some (.int .i64 (h : Nat))) none).run Tryd.prog W = .ok (.slice sa h sc) W) := by
  obtain ⟨hl, hnc⟩ := bytes_len hb
  obtain ⟨sa, sc, B, q, _, _⟩ := slice_mid (l := 0) (h := h) hb (Nat.zero_le _) h1
  have hu : Tryd.prog.underlying 25 = some (.slice 5) := Tryd.underlying25
  have hel : Tryd.prog.elem 25 = 5 := by unfold Program.elem; rw [hu]
  have hu' : Tryd.prog.underlying 25 = some (.slice (Tryd.prog.elem 25)) := by rw [hel]; exact hu
  have hr : ∀ W : World, (Instr.slice 25 (.slice a n c) none (some (.int .i64 (h : Nat))) none).run Tryd.prog W = .ok (.slice sa h sc) W := fun W => by
    have e1 := run_slice_h W 25 a n c hu' .i64 h (by omega) (by omega)
    have e2 := run_slice_lh W 25 a n c hu' .i64 .i64 (0 : Nat) h (by omega) (by omega) (by omega)
    have e3 := q W
    rw [e2] at e3
    rw [e1]
    exact e3
  exact ⟨sa, sc, B, hr, fun W => by rw [run_sliceAt_slice W _ _ _ _ _ hu']; exact hr W⟩

/-- A struct in a cell and two numbers in slots are handed back. -/
theorem results_ctt {P : Program} {fn : Func} {p u v : Tmp} {ty : TypeId} (h : fn.results = #[.cell p ty, .tmp u, .tmp v]) (tmps : Array Value) (w : World) (g : Nat) (t : TypeId) (cs : Array Value) (fr : Nat × Nat) (d : TypeDesc)
    (hp : tmps.getD p undef = .pointer (some ⟨g, 0, none⟩)) (hg : w.heap[g]? = some (.cells cs t fr))
    (hu : P.underlying ty = some d) (hd : (match d with | .struct _ | .array _ _ => true | _ => false) = true) (hi : (P.info? ty).map (·.size) = some cs.size) :
    (results fn tmps).run P w = .ok (.tuple #[.agg cs, tmps.getD u undef, tmps.getD v undef]) w := by
  have hp' : tmps[p]?.getD undef = .pointer (some ⟨g, 0, none⟩) := by simpa using hp
  simp only [results, h]
  simp [Result.andThen, hp', asAddr, run_loadVar_row w g t ty cs fr d hg hu hd hi]

/-- b[l:]: its value, whatever the world, and its bytes. -/
theorem slice_from {w : World} {a : Option Addr} {n c l : Nat} {bs : List UInt8} (hb : Bytes w (.slice a n c) bs) (h1 : l ≤ n) : ∃ sa sc, Bytes w (.slice sa (n - l) sc) (bs.drop l) ∧ (∀ W : World, (Instr.slice 25 (.slice a n c) (some (.int .i64 (l : Nat))) none none).run Tryd.prog W = .ok (.slice sa (n - l) sc) W) ∧ (∀ W : World, (Instr.sliceAt 25 (.slice a n c) (some (.int .i64 (l : Nat))) none none).run Tryd.prog W = .ok (.slice sa (n - l) sc) W) := by
  obtain ⟨hl, hnc⟩ := bytes_len hb
  obtain ⟨sa, sc, B, q, _, _⟩ := slice_mid (l := l) (h := n) hb h1 (Nat.le_refl _)
  have hu : Tryd.prog.underlying 25 = some (.slice 5) := Tryd.underlying25
  have hel : Tryd.prog.elem 25 = 5 := by unfold Program.elem; rw [hu]
  have hu' : Tryd.prog.underlying 25 = some (.slice (Tryd.prog.elem 25)) := by rw [hel]; exact hu
  have hr : ∀ W : World, (Instr.slice 25 (.slice a n c) (some (.int .i64 (l : Nat))) none none).run Tryd.prog W = .ok (.slice sa (n - l) sc) W := fun W => by
    have e1 := run_slice_l W 25 a n c hu' .i64 l (by omega) (by omega)
    have e2 := run_slice_lh W 25 a n c hu' .i64 .i64 l n (by omega) (by omega) (by omega)
    rw [← q W, e1, e2]
    rfl
  refine ⟨sa, sc, ?_, hr, fun W => by rw [run_sliceAt_slice W _ _ _ _ _ hu']; exact hr W⟩
  rwa [List.take_of_length_le (by rw [List.length_drop]; omega)] at B
end Go.Proofs.YtobgmbfoofkdeaaDoor

namespace Go.Proofs.YtobgmbfoofkdeaaDoor
open Go.RowKit

/-- What the document's TakeText tells of bytes. -/
def RefText (bs : List UInt8) (most : Int) (e : Ending) : Prop :=
  (∃ (s : List UInt8) (k : Nat), ReadsT bs most s k ∧ e = .returned (.tuple #[.string ⟨s.toArray⟩, .int .i64 ((k + s.length : Nat) : Int), .bool true])) ∨
  (NoText bs most ∧ e = .returned (.tuple #[.string ⟨#[]⟩, .int .i64 0, .bool false]))

set_option maxRecDepth 100000 in
set_option maxHeartbeats 4000000 in
theorem wRefTakeText_any (u : Value) (bs : List UInt8) (most : Int) (w : World) (h : Bytes w u bs) (hl : bs.length ≤ 1048576) (hmost : InR most) : Calls Tryd.prog 62 #[u, .int .i64 most] w fun e w' => RefText bs most e ∧ w' = w := by
  obtain ⟨a, c, rfl, hlc⟩ := h.form
  obtain ⟨n, hn⟩ : ∃ n, n = bs.length := ⟨_, rfl⟩
  rw [← hn] at h hlc hl ⊢
  have HH := hide h
  have HN := hide hn
  have HMO := hide hmost
  clear h hn hmost
  go_enter Tryd.func62, Tryd.ntmps62
  go_wp2_with fail
  refine (wRefTakeNum_any _ bs _ (unhide HH) (by have := unhide HN; omega)).mono ?_
  rintro e w1 ⟨ht, hw⟩
  rw [hw]
  clear hw w1
  rcases ht with ⟨x, k, hr, rfl⟩ | ⟨hNo, rfl⟩
  · have HR := hide hr
    have hkn := hr.le
    rw [← unhide HN] at hkn
    have hk0 := hr.pos
    obtain ⟨hx1, hx2⟩ := hr.inr
    obtain ⟨d, hd⟩ : ∃ d : Nat, d = n - k := ⟨_, rfl⟩
    have hdi : ((n : Nat) : Int) - ((k : Nat) : Int) = ((d : Nat) : Int) := by omega
    have hdn : d ≤ 1048576 := by omega
    have hkb : (((k : Nat) : Int) == 0) = false := by rw [beq_eq_false_iff_ne]; omega
    have HKN := hide hkn
    have HD := hide hd
    have HK0 := hide hk0
    clear hr hkn hk0 hd
    by_cases hneg : x < 0
    · clear hdi
      go_wp2_with fail
      go_ret3
      exact ⟨.inr ⟨noText_of (unhide HR) (.inl hneg), rfl⟩, rfl⟩
    · by_cases hgm : x > most
      · clear hdi
        go_wp2_with fail
        go_ret3
        exact ⟨.inr ⟨noText_of (unhide HR) (.inr (.inl hgm)), rfl⟩, rfl⟩
      · by_cases hgd : x > ((d : Nat) : Int)
        · go_wp2_with fail
          go_ret3
          exact ⟨.inr ⟨noText_of (unhide HR) (.inr (.inr (by have := unhide HN; have := unhide HD; have := unhide HKN; omega))), rfl⟩, rfl⟩
        · obtain ⟨z, hz⟩ : ∃ z : Nat, x = ((z : Nat) : Int) := ⟨x.toNat, by omega⟩
          subst hz
          obtain ⟨E, hE⟩ : ∃ E : Nat, E = k + z := ⟨_, rfl⟩
          have hEi : ((k : Nat) : Int) + ((z : Nat) : Int) = ((E : Nat) : Int) := by omega
          have hEn : E ≤ n := by have := unhide HKN; have := unhide HD; omega
          have HE := hide hE
          have HRT : Hid (ReadsT bs most ((bs.drop k).take z) k) := by
            have := readsT_of (most := most) (unhide HR) (by omega) (by omega) (by have := unhide HN; have := unhide HD; have h3 := (unhide HR).le; omega)
            rw [Int.toNat_natCast] at this
            exact this
          have HTL : Hid (((bs.drop k).take z).length = z) := by show _ = _; rw [List.length_take, List.length_drop]; have := unhide HN; omega
          clear hE
          have hkE : k ≤ E := by have := unhide HE; omega
          go_wp2
          go_loopw [9, 10] (fun r i W => ∃ (j : Nat), k ≤ j ∧ j ≤ E ∧ i = .int .i64 ((j : Nat) : Int) ∧ r = .string ⟨((bs.drop k).take (j - k)).toArray⟩ ∧ W = w) (fun _ i _ => E - (intOf i).toNat)
          case atStart => exact ⟨k, Nat.le_refl _, hkE, rfl, by rw [Nat.sub_self, List.take_zero], rfl⟩
          case round =>
            obtain ⟨j, hj1, hj2, rfl, rfl, hw⟩ := hrel
            rw [hw]
            clear hw
            by_cases hlt : j < E
            · have hjE : ((j : Nat) : Int) < ((E : Nat) : Int) := by omega
              obtain ⟨sa, sc, hB, q, q', _⟩ := slice_mid (l := j) (h := j + 1) (unhide HH) (by omega) (by omega)
              rw [show j + 1 - j = 1 by omega] at hB q q'
              replace q : ∀ W : World, (Instr.slice 25 (.slice a n c) (some (.int .i64 ((j : Nat) : Int))) (some (.int .i64 (((j : Nat) : Int) + 1))) none).run Tryd.prog W = .ok (.slice sa 1 sc) W := fun W => q W
              replace q' : ∀ W : World, (Instr.sliceAt 25 (.slice a n c) (some (.int .i64 ((j : Nat) : Int))) (some (.int .i64 (((j : Nat) : Int) + 1))) none).run Tryd.prog W = .ok (.slice sa 1 sc) W := fun W => q' W
              have cv := run_convert_bytes (P := Tryd.prog) w 25 9 5 Tryd.underlying25 Tryd.underlying5 Tryd.underlying9 _ _ hB
              have hl1 : ((bs.drop k).take (j - k)).length = j - k := by rw [List.length_take, List.length_drop]; have := unhide HN; omega
              have hl2 : ((bs.drop j).take 1).length = 1 := by rw [List.length_take, List.length_drop]; have := unhide HN; omega
              have ad := run_string_add_lists (P := Tryd.prog) w ((bs.drop k).take (j - k)) ((bs.drop j).take 1) (by omega) (by omega)
              have hcat : (bs.drop k).take (j - k) ++ (bs.drop j).take 1 = (bs.drop k).take (j + 1 - k) := by
                rw [show j + 1 - k = (j - k) + 1 by omega, List.take_add, List.drop_drop, show k + (j - k) = j by omega]
              rw [hcat] at ad
              have HCV := hide cv
              generalize hs1 : (⟨((bs.drop k).take (j - k)).toArray⟩ : ByteArray) = s1 at *
              generalize hs2 : (⟨((bs.drop j).take 1).toArray⟩ : ByteArray) = s2 at *
              generalize hs3 : (⟨((bs.drop k).take (j + 1 - k)).toArray⟩ : ByteArray) = s3 at *
              have HS3 := hide hs3
              clear hs1 hs2 hs3 hB HCV hl1 hl2 hcat hneg hgm hgd
              go_wp2
              exact ⟨⟨j + 1, by omega, by omega, by go_num, by rw [unhide HS3], trivial⟩, by simp [intOf]; omega⟩
            · have e : j = E := by omega
              have hjE : ¬ ((j : Nat) : Int) < ((E : Nat) : Int) := by omega
              have HTE : Hid ((bs.drop k).take (j - k) = (bs.drop k).take z) := by show _ = _; rw [e, unhide HE, Nat.add_sub_cancel_left]
              rw [unhide HTE]
              generalize hs1 : (⟨((bs.drop k).take z).toArray⟩ : ByteArray) = s1 at *
              have HS1 := hide hs1
              clear hs1 e hneg hgm hgd
              go_wp2
              go_ret3
              refine ⟨.inl ⟨_, _, unhide HRT, ?_⟩, rfl⟩
              rw [unhide HTL, unhide HS1, ← unhide HE]
              rfl
  · go_wp2_with fail
    go_ret3
    exact ⟨.inr ⟨noText_of_noNum hNo, rfl⟩, rfl⟩
end Go.Proofs.YtobgmbfoofkdeaaDoor
