/- RecTurned, walked over RecOk, where what comes in is not too great. -/
import Derived.Test.YtfaoailiamcchaaRecCut
namespace Go.Proofs.Ytfaoailiamcchaa
open Go.RowKit

theorem short_len : ∀ {rs : List RecD}, (∀ r ∈ rs, r.d.length ≤ 200) → (puts rs).length ≤ 209 * rs.length
  | [], _ => by simp [puts]
  | r :: rs, h => by
    have h1 := h r (List.mem_cons_self ..)
    have h2 := short_len (rs := rs) fun r' hr' => h r' (List.mem_cons_of_mem _ hr')
    rw [puts_cons, List.length_append, put_len, List.length_cons]
    omega
/-- One bit. -/
theorem bit_ne (m : Nat) (hm : m < 8) : UInt8.ofNat (2 ^ m) ≠ 0 ∧ (UInt8.ofNat (2 ^ m)).toNat = 2 ^ m := by
  rcases (by omega : m = 0 ∨ m = 1 ∨ m = 2 ∨ m = 3 ∨ m = 4 ∨ m = 5 ∨ m = 6 ∨ m = 7) with rfl | rfl | rfl | rfl | rfl | rfl | rfl | rfl <;> decide

section
variable (hc : RecOk) (rs : List RecD) (ua : Option Addr) (n uc cu : Nat) (w : World) (h : RecsAt w (.slice ua n uc) rs) (hn : rs.length = n) (hl : n ≤ 1048576) (hd : ∀ i, i < rs.length → (rs.getD i ⟨0, []⟩).d.length ≤ 1048576) (hp : (puts rs).length ≤ 1099511627776)
include hc h hn hl hd hp

set_option maxRecDepth 100000 in
set_option maxHeartbeats 8000000 in
theorem recTurned_any (bt : Nat) (hcu : cu < 65536) (hbt : bt < 256) : Calls Try.prog 6 #[.slice ua n uc, .int .u16 (cu : Nat), .int .u8 (bt : Nat)] w fun e w' => e = .returned (.bool true) ∧ Below w.heap.size w w' := by
  have HC := hide hc
  have HH := hide h
  have HN := hide hn
  have HD := hide hd
  have HP := hide hp
  clear hc h hn hd hp
  go_enter Try.func6, Try.ntmps6
  go_wp2_with fail
  refine (written_any (unhide HC) _ rs _ (unhide HH) (by have := unhide HN; omega) (unhide HD) (unhide HP)).mono ?_
  rintro e w1 (⟨hrt, v1, v2, rfl, hT⟩ | ⟨_, rfl, hb⟩)
  case inr =>
    have HB := hide hb
    clear hb
    go_wp2_with fail
    refine (awake_any (unhide HC) _).mono ?_
    rintro e w2 ⟨rfl, hb⟩
    have HB2 := hide ((unhide HB).trans (hb.mono (unhide HB).size))
    clear hb
    go_wp2_with fail
    go_ret
    exact ⟨rfl, unhide HB2⟩
  have HRT := hide hrt
  have HT := hide hT
  clear hrt hT
  go_wp2_with fail
  refine (short_any _ rs _ ((unhide HH).later (unhide HT).o1.bb) (by have := unhide HN; omega) (unhide HD)).mono ?_
  rintro e w2 ⟨⟨b, rfl, hiff⟩, hb⟩
  have HT2 := hide ((unhide HT).later hb)
  have HR2 := hide ((unhide HH).later (unhide HT2).o1.bb)
  clear hb HT
  cases b
  case false =>
    go_wp2_with fail
    refine (awake_any (unhide HC) _).mono ?_
    rintro e w3 ⟨rfl, hb⟩
    have HB2 := hide ((unhide HT2).o1.bb.trans (hb.mono (unhide HT2).o1.bb.size))
    clear hb
    go_wp2_with fail
    go_ret
    exact ⟨rfl, unhide HB2⟩
  have HSHORT := hide (hiff.1 rfl)
  clear hiff
  by_cases hn0 : n = 0
  · have hn0' : (n : Int) = 0 := by omega
    subst hn0
    go_wp2_with fail
    refine (awake_any (unhide HC) _).mono ?_
    rintro e w3 ⟨rfl, hb⟩
    have HB2 := hide ((unhide HT2).o1.bb.trans (hb.mono (unhide HT2).o1.bb.size))
    clear hb
    go_wp2_with fail
    go_ret
    exact ⟨rfl, unhide HB2⟩
  have hn0' : ((n : Int) == 0) = false := beq_eq_false_iff_ne.2 (by omega)
  obtain ⟨pa, pc, ep, _⟩ := (bytes_of_owns (unhide HT2).o1.own).form
  subst ep
  obtain ⟨ea, ec, ee⟩ := (unhide HT2).o2.form
  rw [ends_len, unhide HN] at ee
  subst ee
  obtain ⟨NP, hNP⟩ : ∃ NP, NP = (puts rs).length := ⟨_, rfl⟩
  rw [← hNP] at HT2 HP ⊢
  have HNP := hide hNP
  have hNPb : NP ≤ 6270 := by have h1 := short_len (unhide HSHORT).1; have h2 := (unhide HSHORT).2; omega
  have hNP9 : ¬ (NP : Int) < 9 := by
    have h1 := plen_le rs 1
    have h2 : plen rs 1 = plen rs 0 + _ := plen_succ rs (j := 0) (by rw [unhide HN]; omega)
    rw [plen_zero, put_len] at h2
    have h3 := unhide HNP
    omega
  clear hNP
  obtain ⟨k, hk⟩ : ∃ k, k = cu % NP := ⟨_, rfl⟩
  have hkI : ((cu : Nat) : Int) % (NP : Int) = ((k : Nat) : Int) := by rw [hk]; push_cast; rfl
  have hkl : k < NP := by rw [hk]; exact Nat.mod_lt cu (by omega)
  obtain ⟨t, ht0, ht1, ht2⟩ := split_at rs k
  have htn : t < n := by
    rcases Nat.lt_or_ge t n with h | h
    · exact h
    · have e : t = rs.length := by have := unhide HN; omega
      have h1 := ht1 t (Nat.le_refl _)
      rw [e, plen_all, ← unhide HNP] at h1
      omega
  have HT1 := hide ht1
  have HT3 := hide ht2
  clear ht1 ht2 ht0 hk
  obtain ⟨g0, hg0, hcell0, hfr0, hset0⟩ := own_at (unhide HT2).o1.own (unhide HNP).symm hkl
  subst hg0
  obtain ⟨b0, hb0⟩ : ∃ b0 : UInt8, b0 = (puts rs).getD k 0 := ⟨_, rfl⟩
  rw [← hb0] at hcell0
  have HB0 : Hid (b0 = (puts rs)[k]'(by rw [← unhide HNP]; exact hkl)) := by
    rw [hb0, List.getD_eq_getElem?_getD, List.getElem?_eq_getElem (by rw [← unhide HNP]; exact hkl)]; rfl
  clear hb0
  obtain ⟨bm, hbm⟩ : ∃ bm, bm = bt % 8 := ⟨_, rfl⟩
  have hbm8 : bm < 8 := by omega
  obtain ⟨vb, hvb⟩ : ∃ vb, vb = UInt8.ofNat (2 ^ bm) := ⟨_, rfl⟩
  have HVB : Hid (vb ≠ 0) := by rw [hvb]; exact (bit_ne bm hbm8).1
  have hxv : bits .xor .u8 ((b0.toNat : Nat) : Int) (2 ^ (bt % 8) % 256) = (((b0 ^^^ vb).toNat : Nat) : Int) := by
    have h1 : (2 : Int) ^ (bt % 8) % 256 = ((vb.toNat : Nat) : Int) := by
      rw [hvb, (bit_ne bm hbm8).2, ← hbm]
      rcases (by omega : bm = 0 ∨ bm = 1 ∨ bm = 2 ∨ bm = 3 ∨ bm = 4 ∨ bm = 5 ∨ bm = 6 ∨ bm = 7) with e | e | e | e | e | e | e | e <;> rw [e] <;> rfl
    rw [h1, u8_xor_nat _ _ b0.toNat_lt vb.toNat_lt, toNat_xor8]
  have HXV := hide hxv
  have HSET := hide (hset0 (b0 ^^^ vb))
  clear hvb hbm hxv hset0
  go_upto_region 7 with fail
  rw [hkI]
  clear hkI
  go_upto_region 8 with fail
  rw [unhide HXV]
  have hgn : w.heap.size ≤ g0 := (unhide HT2).o1.new g0 rfl
  have HOW : Hid (Own w (.slice (some ⟨g0, 0, none⟩) NP pc) ((puts rs).set k (b0 ^^^ vb)) (w2.setCell ⟨g0, k, none⟩ (.int .u8 (((b0 ^^^ vb).toNat : Nat) : Int)))) := ⟨unhide HSET, (unhide HT2).o1.new, (unhide HT2).o1.bb.setCell (p := ⟨g0, k, none⟩) hgn _⟩
  have HIN : Hid (IntsO w (.slice ea n ec) (endsOf rs) (w2.setCell ⟨g0, k, none⟩ (.int .u8 (((b0 ^^^ vb).toNat : Nat) : Int)))) := (unhide HT2).o2.later fun k' e _ => by
    rw [Below.heap_setCell _ _ _ _ (by show k' ≠ g0; exact fun e' => (unhide HT2).ap g0 rfl (by rw [e, e']))]
  clear HT2 HSET hcell0 hfr0 HXV hgn
  generalize w2.setCell _ _ = w3 at *
  go_wp2_with fail
  go_loopw [11, 12, 56] (fun wh at' i W => ∃ j : Nat, j ≤ n ∧ i = .int .i64 j ∧ wh = .int .i64 ((min t j : Nat) : Int) ∧ at' = .int .i64 ((plen rs (min t j) : Nat) : Int) ∧ W = w3) (fun _ _ i _ => n - (intOf i).toNat)
  case atStart => exact ⟨0, Nat.zero_le _, rfl, by simp, by simp [plen_zero], rfl⟩
  case round =>
    obtain ⟨j, hj, rfl, rfl, rfl, rfl⟩ := hrel
    by_cases hlt : j < n
    · obtain ⟨g, hg, hcell⟩ := (unhide HIN).at (by rw [ends_len]; exact unhide HN) hlt
      subst hg
      rw [ends_at rs (by rw [unhide HN]; exact hlt)] at hcell
      have i1 : (j : Int) < (n : Int) := by omega
      by_cases hjt : j < t
      · have hle := unhide HT1 (j + 1) (by omega)
        have e1 : min t j = j := by omega
        have E2 : Hid (min t (j + 1) = j + 1) := by show _ = _; omega
        rw [e1]
        generalize plen rs j = p0 at *
        obtain ⟨p1, hp1⟩ : ∃ p1, p1 = plen rs (j + 1) := ⟨_, rfl⟩
        rw [← hp1] at hle hcell
        have HP1 := hide hp1
        have hle' : (p1 : Int) ≤ (k : Int) := by omega
        clear hp1
        go_wp2_with fail
        exact ⟨⟨j + 1, by omega, by go_num, by rw [unhide E2]; go_num, by rw [unhide E2, ← unhide HP1], by trivial⟩, by simp [intOf]; omega⟩
      · have hgt := unhide HT3 (j + 1) (by omega) (by rw [unhide HN]; omega)
        have e1 : min t j = t := by omega
        have E2 : Hid (min t (j + 1) = t) := by show _ = _; omega
        rw [e1]
        obtain ⟨p0, hp0⟩ : ∃ p0, p0 = plen rs t := ⟨_, rfl⟩
        rw [← hp0]
        have HP0 := hide hp0
        clear hp0
        generalize plen rs (j + 1) = p1 at *
        have hgt' : ¬ (p1 : Int) ≤ (k : Int) := by omega
        go_wp2_with fail
        exact ⟨⟨j + 1, by omega, by go_num, by rw [unhide E2], by rw [unhide E2, ← unhide HP0], by trivial⟩, by simp [intOf]; omega⟩
    · have ej : n = j := by omega
      subst ej
      have e1 : min t n = t := by omega
      rw [e1]
      clear e1
      have hpt := unhide HT1 t (Nat.le_refl _)
      have HTA : Hid (¬ (5 ≤ k - plen rs t ∧ k - plen rs t < 9) → ∀ ss m x, AllIs ((puts rs).set k (b0 ^^^ vb)) ss m x → ss = rs.take t ∧ x ≠ 0) := fun hn5 ss m x hA => by
        have hk2 : k < (puts rs).length := by rw [← unhide HNP]; exact hkl
        rw [unhide HB0] at hA
        exact turned_all rs (unhide HRT) (by rw [unhide HN]; exact htn) hpt (unhide HT3 (t + 1) (by omega) (by rw [unhide HN]; omega)) hn5 vb (unhide HVB) hk2 hA
      have HR3 := hide ((unhide HH).later (unhide HOW).bb)
      have HBY := hide (bytes_of_owns (unhide HOW).own)
      have HBB := hide (unhide HOW).bb
      have HSH : Hid ((rs.take t).length ≤ 1048576) := by show _ ≤ _; rw [List.length_take]; have := unhide HN; omega
      clear HT1 HT3 HOW HIN HB0 HH HR2 HVB
      generalize plen rs t = p0 at *
      by_cases h59 : 5 ≤ k - p0 ∧ k - p0 < 9
      · have f1 : (k : Int) - (p0 : Int) ≥ 5 := by omega
        have f2 : (k : Int) - (p0 : Int) < 9 := by omega
        go_wp2_with fail
        refine (awake_any (unhide HC) _).mono ?_
        rintro e w5 ⟨rfl, hb⟩
        have HB5 := hide ((unhide HBB).trans (hb.mono (unhide HBB).size))
        clear hb
        go_wp2_with fail
        go_ret
        exact ⟨rfl, unhide HB5⟩
      · obtain ⟨ya, yc, hY, y1, y2⟩ := slice_recs (h := t) (unhide HR3) (unhide HN) (by omega)
        have HY := hide hY
        have HTA2 := hide (unhide HTA h59)
        have htl : (rs.take t).length = t := by rw [List.length_take]; have := unhide HN; omega
        clear hY HTA HR3
        have hf : ((k : Int) - (p0 : Int) ≥ 5 ∧ ¬ (k : Int) - (p0 : Int) < 9) ∨ ¬ (k : Int) - (p0 : Int) ≥ 5 := by omega
        clear h59
        rcases hf with ⟨f1, f2⟩ | f1
        all_goals go_wp2_with fail
        all_goals refine ((unhide HC).all _ NP pc _ _ (unhide HBY) (by omega)).mono ?_
        all_goals rintro e w4 ⟨l3, ss, m, x, rfl, hA, hR, hb⟩
        all_goals obtain ⟨rfl, hx⟩ := unhide HTA2 _ _ _ hA
        all_goals obtain ⟨ga, gc, eg, _⟩ := hR.form
        all_goals subst eg
        all_goals rw [htl] at hR ⊢
        all_goals have HR4 := hide hR
        all_goals have HY4 := hide ((unhide HY).later hb)
        all_goals have HB4 := hide ((unhide HBB).trans (hb.mono (unhide HBB).size))
        all_goals have hx' : (x != 0) = true := bne_iff_ne.2 hx
        all_goals clear hR hA hb HY HBB HTA2 hx
        all_goals go_wp2_with fail
        all_goals refine (low_sameRecs _ _ (rs.take t) (rs.take t) _ (unhide HR4) (unhide HY4) (unhide HSH)).mono ?_
        all_goals rintro e w5 ⟨bb, rfl, hiff, hb⟩
        all_goals obtain rfl : bb = true := hiff.2 rfl
        all_goals have HB5 := hide ((unhide HB4).trans (hb.mono (unhide HB4).size))
        all_goals clear hiff hb HB4 HR4 HY4
        all_goals go_wp2_with fail
        all_goals refine (awake_any (unhide HC) _).mono ?_
        all_goals rintro e w6 ⟨rfl, hb⟩
        all_goals have HB6 := hide ((unhide HB5).trans (hb.mono (unhide HB5).size))
        all_goals clear hb HB5
        all_goals go_wp2_with fail
        all_goals go_ret
        all_goals exact ⟨rfl, unhide HB6⟩
end
end Go.Proofs.Ytfaoailiamcchaa
