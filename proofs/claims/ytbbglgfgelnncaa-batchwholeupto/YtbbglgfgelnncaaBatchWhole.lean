/- BatchWhole, walked over BatchOk, where what comes in is not too great. -/
import Derived.Test.YtbbglgfgelnncaaBatchTells
import Derived.Test.YtbbglgfgelnncaaBatchWritten
namespace Go.Proofs.Ytbbglgfgelnncaa
open Go.RowKit

/-- l[:h] of a slice of one-cell things. -/
theorem slice_list {α : Type} {E : World → Value → α → Prop} {t e : TypeId} (hu : Try.prog.underlying t = some (.slice e)) (hsz : ∀ W : World, (sizeOf e).run Try.prog W = .ok 1 W) {w : World} {a : Option Addr} {n c h : Nat} {xs : List α} (hb : ListAt E w (.slice a n c) xs) (hl : xs.length = n) (h1 : h ≤ n) :
    ∃ sa sc, ListAt E w (.slice sa h sc) (xs.take h) ∧ (∀ W : World, (Instr.slice t (.slice a n c) none (some (.int .i64 (h : Nat))) none).run Try.prog W = .ok (.slice sa h sc) W) ∧ (∀ W : World, (Instr.sliceAt t (.slice a n c) none (some (.int .i64 (h : Nat))) none).run Try.prog W = .ok (.slice sa h sc) W) := by
  have hnc : n ≤ c := by obtain ⟨_, _, hv, hc⟩ := hb.form; simp only [Value.slice.injEq] at hv; omega
  have hel : Try.prog.elem t = e := by unfold Program.elem; rw [hu]
  have hu' : Try.prog.underlying t = some (.slice (Try.prog.elem t)) := by rw [hel]; exact hu
  have hr : ∀ W : World, (Instr.slice t (.slice a n c) none (some (.int .i64 (h : Nat))) none).run Try.prog W = .ok (.slice (if c = 0 then a else a.map (·.add 0)) h c) W := fun W => by
    rw [run_slice_h W t a n c hu' .i64 h (by omega) (by omega), hel, hsz W]
    simp only [Result.andThen, sliced, Int.toNat_natCast, Nat.zero_mul, Nat.sub_zero]
  refine ⟨_, _, ?_, hr, fun W => by rw [run_sliceAt_slice W _ _ _ _ _ hu']; exact hr W⟩
  have htl : (xs.take h).length = h := by rw [List.length_take]; omega
  rcases hb with ⟨_, hbn⟩ | ⟨b, o, c', hv, hl1, hbb⟩
  · have e2 : h = 0 := by rw [hbn, List.length_nil] at hl; omega
    subst e2
    exact .inl ⟨⟨_, _, rfl⟩, by simp⟩
  · simp only [Value.slice.injEq] at hv
    obtain ⟨rfl, _, rfl⟩ := hv
    refine .inr ⟨b, o, c, ?_, by omega, fun i x hx => ?_⟩
    · rw [htl]
      congr 1
      split
      · rfl
      · simp [Addr.add_mid]
    · rw [List.getElem?_take] at hx
      split at hx
      · exact hbb i x hx
      · cases hx

section
variable (hc : BatchOk) (l : List (List (List UInt8))) (ua : Option Addr) (n uc cu : Nat) (w : World) (h : BatchesAt w (.slice ua n uc) l) (hn : l.length = n) (hl : n ≤ 1048576) (hw : weight l ≤ 1048576)
include hc h hn hl hw

set_option maxRecDepth 100000 in
set_option maxHeartbeats 8000000 in
theorem batchWhole_any (hcu : cu < 65536) : Calls Try.prog 4 #[.slice ua n uc, .int .u16 (cu : Nat)] w fun e w' => e = .returned (.bool true) ∧ Below w.heap.size w w' := by
  have HC := hide hc
  have HH := hide h
  have HN := hide hn
  have HD : Hid (∀ rows ∈ l, ∀ r ∈ rows, rows.length ≤ 1024 → r.length ≤ 1048576) := fun rows hr r hr2 _ => by have h1 := weight_mem hr; have h2 := total_mem hr2; omega
  have HR : Hid (∀ x ∈ l, x.length ≤ 140737488355328) := fun x hx => by have := weight_mem hx; omega
  have HW := hide hw
  clear hc h hn hw
  go_enter Try.func4, Try.ntmps4
  go_wp2_with fail
  refine (bwritten_any (unhide HC) _ l _ (unhide HH) (by have := unhide HN; omega) (unhide HD)).mono ?_
  rintro e w1 (⟨hrt, v1, v2, rfl, hT⟩ | ⟨_, rfl, hb⟩)
  case inr =>
    have HB := hide hb
    clear hb
    go_wp2_with fail
    refine (awake_any (unhide HC) _).mono ?_
    rintro e w2 ⟨rfl, hb⟩
    have HB2 := hide ((unhide HB).trans (hb.mono (unhide HB).size))
    clear hb
    go_wp2_with fail
    go_ret
    exact ⟨rfl, unhide HB2⟩
  have HRT := hide hrt
  have HT := hide hT
  clear hrt hT
  go_wp2_with fail
  refine (low_few _ l _ ((unhide HH).later (unhide HT).o1.bb) (by have := unhide HN; omega) (by have := unhide HW; omega) (unhide HR)).mono ?_
  rintro e w2 ⟨⟨b, rfl, hiff⟩, hw2⟩
  have HT2 : Hid (Two w v1 (bputs l) v2 (bends l) w2) := by rw [hw2]; exact unhide HT
  have HR2 := hide ((unhide HH).later (unhide HT2).o1.bb)
  clear hw2 HT HH
  cases b
  case false =>
    go_wp2_with fail
    refine (awake_any (unhide HC) _).mono ?_
    rintro e w3 ⟨rfl, hb⟩
    have HB2 := hide ((unhide HT2).o1.bb.trans (hb.mono (unhide HT2).o1.bb.size))
    clear hb
    go_wp2_with fail
    go_ret
    exact ⟨rfl, unhide HB2⟩
  clear hiff
  obtain ⟨pa, pc, ep, _⟩ := (bytes_of_owns (unhide HT2).o1.own).form
  subst ep
  obtain ⟨ea, ec, ee⟩ := (unhide HT2).o2.form
  rw [bends_len, unhide HN] at ee
  subst ee
  have hNPb : (bputs l).length ≤ 4300000 * 1048576 := by
    have h1 := bputs_most (unhide HRT)
    have h2 : 4300000 * l.length ≤ 4300000 * 1048576 := Nat.mul_le_mul_left _ (by have := unhide HN; omega)
    omega
  obtain ⟨NP, hNP⟩ : ∃ NP, NP = (bputs l).length := ⟨_, rfl⟩
  rw [← hNP] at HT2 hNPb ⊢
  have HNP := hide hNP
  clear hNP
  obtain ⟨k, hk⟩ : ∃ k, k = cu % (NP + 1) := ⟨_, rfl⟩
  have hkI : ((cu : Nat) : Int) % ((NP : Int) + 1) = ((k : Nat) : Int) := by rw [hk]; push_cast; rfl
  have hkl : k ≤ NP := by rw [hk]; have := Nat.mod_lt cu (show 0 < NP + 1 by omega); omega
  have hkc : k ≤ 65535 := by rw [hk]; have := Nat.mod_le cu (NP + 1); omega
  obtain ⟨t, ht0, ht1, ht2⟩ := split_mono (blen l) l.length k (by rw [blen_zero]; omega) (fun i j hij _ => blen_mono l i j hij)
  have HT1 := hide ht1
  have HT3 := hide ht2
  have HT0 := hide ht0
  clear ht1 ht2 ht0 hk
  go_upto_region 6 with fail
  rw [hkI]
  clear hkI
  go_wp2_with fail
  go_loopw [9, 10, 38] (fun wh at' i W => ∃ j : Nat, j ≤ n ∧ i = .int .i64 j ∧ wh = .int .i64 ((min t j : Nat) : Int) ∧ at' = .int .i64 ((blen l (min t j) : Nat) : Int) ∧ W = w2) (fun _ _ i _ => n - (intOf i).toNat)
  case atStart => exact ⟨0, Nat.zero_le _, rfl, by simp, by simp [blen_zero], rfl⟩
  case round =>
    obtain ⟨j, hj, rfl, rfl, rfl, rfl⟩ := hrel
    by_cases hlt : j < n
    · obtain ⟨g, hg, hcell⟩ := (unhide HT2).o2.at (by rw [bends_len]; exact unhide HN) hlt
      subst hg
      rw [List.getD_eq_getElem?_getD, bends_get (by rw [unhide HN]; exact hlt), Option.getD_some] at hcell
      have i1 : (j : Int) < (n : Int) := by omega
      by_cases hjt : j < t
      · have hle := unhide HT1 (j + 1) (by omega)
        have e1 : min t j = j := by omega
        have E2 : Hid (min t (j + 1) = j + 1) := by show _ = _; omega
        rw [e1]
        have HSH : Hid (blen l (j + 1) ≤ 1099511627776) := by show _ ≤ _; omega
        generalize blen l j = p0 at *
        obtain ⟨p1, hp1⟩ : ∃ p1, p1 = blen l (j + 1) := ⟨_, rfl⟩
        rw [← hp1] at hle hcell HSH
        have HP1 := hide hp1
        have hle' : (p1 : Int) ≤ (k : Int) := by omega
        clear hp1
        go_wp2_with fail
        exact ⟨⟨j + 1, by omega, by go_num, by rw [unhide E2]; go_num, by rw [unhide E2, ← unhide HP1], by trivial⟩, by simp [intOf]; omega⟩
      · have hgt := unhide HT3 (j + 1) (by omega) (by rw [unhide HN]; omega)
        have e1 : min t j = t := by omega
        have E2 : Hid (min t (j + 1) = t) := by show _ = _; omega
        rw [e1]
        obtain ⟨p0, hp0⟩ : ∃ p0, p0 = blen l t := ⟨_, rfl⟩
        rw [← hp0]
        have HP0 := hide hp0
        clear hp0
        generalize blen l (j + 1) = p1 at *
        have hgt' : ¬ (p1 : Int) ≤ (k : Int) := by omega
        go_wp2_with fail
        exact ⟨⟨j + 1, by omega, by go_num, by rw [unhide E2], by rw [unhide E2, ← unhide HP0], by trivial⟩, by simp [intOf]; omega⟩
    · have ej : n = j := by omega
      subst ej
      have e1 : min t n = t := by have := unhide HT0; rw [unhide HN] at this; omega
      rw [e1]
      clear e1
      have htn : t ≤ n := by have := unhide HT0; rw [unhide HN] at this; exact this
      obtain ⟨sa, sc, BS, q, q'⟩ := slice_to (h := k) (bytes_of_owns (unhide HT2).o1.own) hkl
      obtain ⟨ya, yc, hY, y1, y2⟩ := slice_list (h := t) Try.underlying33 (fun W => by simp [sizeOf]; rfl) (unhide HR2) (unhide HN) htn
      have HBS := hide BS
      have HY : Hid (BatchesAt wr (.slice ya t yc) (l.take t)) := hY
      have HCA : Hid (∃ x, ScanIs ((bputs l).take k) (l.take t) (blen l t) x ∧ ((x = 0 ∧ blen l t = k) ∨ (x = 32 ∧ ¬ blen l t = k))) :=
        scan_cut (unhide HRT) (by rw [← unhide HNP]; exact hkl) (unhide HT0) (unhide HT1 t (Nat.le_refl _)) (fun hlt => unhide HT3 (t + 1) (by omega) (by omega))
      have HBB := hide (unhide HT2).o1.bb
      have HSH : Hid ((l.take t).length ≤ 1048576) := by show _ ≤ _; rw [List.length_take]; have := unhide HN; omega
      have HSR : Hid (∀ x ∈ l.take t, x.length ≤ 140737488355328) := fun x hx => unhide HR x (List.mem_of_mem_take hx)
      clear BS hY HT2 HT1 HT3 HR2
      obtain ⟨p0, hp0⟩ : ∃ p0, p0 = blen l t := ⟨_, rfl⟩
      rw [← hp0] at HCA ⊢
      clear hp0
      go_wp2_with fail
      refine ((unhide HC).scan sa k sc _ _ (unhide HBS) (by omega)).mono ?_
      rintro e w3 ⟨l3, ss, m, x, rfl, hA, hR, hb⟩
      obtain ⟨x', hs', hx⟩ := unhide HCA
      obtain ⟨rfl, rfl, rfl⟩ := hs'.same hA
      obtain ⟨ga, gc, eg, _⟩ := hR.form
      have htl : (l.take t).length = t := by rw [List.length_take]; have := unhide HN; omega
      rw [htl] at eg
      subst eg
      have HR3 := hide hR
      have HY3 := hide ((unhide HY).later hb)
      have HB3 := hide ((unhide HBB).trans (hb.mono (unhide HBB).size))
      clear hR hA hb HY HBB HCA HBS hs' htl
      go_wp2_with fail
      refine (low_sameBatches _ _ (l.take t) (l.take t) _ (unhide HR3) (unhide HY3) (by have := unhide HSH; omega) (unhide HSR)).mono ?_
      rintro e w4 ⟨rfl, hb⟩
      rw [show decide (l.take t = l.take t) = true from decide_eq_true rfl]
      have HB4 := hide ((unhide HB3).trans (hb.mono (unhide HB3).size))
      clear hb HB3 HR3 HY3
      rcases hx with ⟨rfl, hx⟩ | ⟨rfl, hx⟩
      · subst hx
        go_wp2_with fail
        refine (awake_any (unhide HC) _).mono ?_
        rintro e w5 ⟨rfl, hb⟩
        have HB5 := hide ((unhide HB4).trans (hb.mono (unhide HB4).size))
        clear hb HB4
        go_wp2_with fail
        go_ret
        exact ⟨rfl, unhide HB5⟩
      · have hx2 : ((p0 : Int) == (k : Int)) = false := beq_eq_false_iff_ne.2 (by omega)
        go_wp2_with fail
        refine (awake_any (unhide HC) _).mono ?_
        rintro e w5 ⟨rfl, hb⟩
        have HB5 := hide ((unhide HB4).trans (hb.mono (unhide HB4).size))
        clear hb HB4
        go_wp2_with fail
        go_ret
        exact ⟨rfl, unhide HB5⟩
end
end Go.Proofs.Ytbbglgfgelnncaa
