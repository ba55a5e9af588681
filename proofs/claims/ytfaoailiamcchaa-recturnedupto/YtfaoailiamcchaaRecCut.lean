/- RecCut, walked over RecOk, where what comes in is not too great. -/
import Derived.Test.YtfaoailiamcchaaRecAny
namespace Go.Proofs.Ytfaoailiamcchaa
open Go.RowKit

/-- A number of a row of ours, read. -/
theorem IntsO.at {w W : World} {a : Option Addr} {n c : Nat} {ns : List Nat} (h : IntsO w (.slice a n c) ns W) (hl : ns.length = n) {i : Nat} (hi : i < n) : ∃ g, a = some ⟨g, 0, none⟩ ∧ W.cell? ⟨g, i, none⟩ = some (.int .i64 ((ns.getD i 0 : Nat) : Int)) := by
  have h0 := h.own
  rcases h0.2 with ⟨e, h1⟩ | ⟨g, cap, cur, e, h1⟩
  · omega
  · simp only [Value.slice.injEq] at e
    obtain ⟨rfl, _, rfl⟩ := e
    refine ⟨g, rfl, ?_⟩
    have hx : (ns.map iv)[i]? = some (iv (ns.getD i 0)) := by rw [List.getElem?_map, List.getElem?_eq_getElem (by omega), List.getD_eq_getElem?_getD, List.getElem?_eq_getElem (by omega)]; rfl
    have hc := h0.cells (g := g) rfl i _ hx
    simpa [Addr.add_mid, iv] using hc
theorem ends_at (rs : List RecD) {i : Nat} (hi : i < rs.length) : (endsOf rs).getD i 0 = plen rs (i + 1) := by
  unfold endsOf plen
  rw [List.getD_eq_getElem?_getD, List.getElem?_map, List.getElem?_range hi]; rfl

section
variable (hc : RecOk) (rs : List RecD) (ua : Option Addr) (n uc cu : Nat) (w : World) (h : RecsAt w (.slice ua n uc) rs) (hn : rs.length = n) (hl : n ≤ 1048576) (hd : ∀ i, i < rs.length → (rs.getD i ⟨0, []⟩).d.length ≤ 1048576) (hp : (puts rs).length ≤ 1099511627776)
include hc h hn hl hd hp

set_option maxRecDepth 100000 in
set_option maxHeartbeats 8000000 in
theorem recCut_any (hcu : cu < 65536) : Calls Try.prog 5 #[.slice ua n uc, .int .u16 (cu : Nat)] w fun e w' => e = .returned (.bool true) ∧ Below w.heap.size w w' := by
  have HC := hide hc
  have HH := hide h
  have HN := hide hn
  have HD := hide hd
  have HP := hide hp
  clear hc h hn hd hp
  go_enter Try.func5, Try.ntmps5
  go_wp2_with fail
  refine (written_any (unhide HC) _ rs _ (unhide HH) (by have := unhide HN; omega) (unhide HD) (unhide HP)).mono ?_
  rintro e w1 (⟨hrt, v1, v2, rfl, hT⟩ | ⟨_, rfl, hb⟩)
  case inr =>
    have HB := hide hb
    clear hb
    go_wp2_with fail
    refine (awake_any (unhide HC) _).mono ?_
    rintro e w2 ⟨rfl, hb⟩
    have HB2 := hide ((unhide HB).trans (hb.mono (unhide HB).size))
    clear hb
    go_wp2_with fail
    go_ret
    exact ⟨rfl, unhide HB2⟩
  have HRT := hide hrt
  have HT := hide hT
  clear hrt hT
  go_wp2_with fail
  refine (short_any _ rs _ ((unhide HH).later (unhide HT).o1.bb) (by have := unhide HN; omega) (unhide HD)).mono ?_
  rintro e w2 ⟨⟨b, rfl, hiff⟩, hb⟩
  have HT2 := hide ((unhide HT).later hb)
  have HR2 := hide ((unhide HH).later (unhide HT2).o1.bb)
  clear hb HT HH
  cases b
  case false =>
    go_wp2_with fail
    refine (awake_any (unhide HC) _).mono ?_
    rintro e w3 ⟨rfl, hb⟩
    have HB2 := hide ((unhide HT2).o1.bb.trans (hb.mono (unhide HT2).o1.bb.size))
    clear hb
    go_wp2_with fail
    go_ret
    exact ⟨rfl, unhide HB2⟩
  clear hiff
  obtain ⟨pa, pc, ep, _⟩ := (bytes_of_owns (unhide HT2).o1.own).form
  subst ep
  obtain ⟨ea, ec, ee⟩ := (unhide HT2).o2.form
  rw [ends_len, unhide HN] at ee
  subst ee
  obtain ⟨NP, hNP⟩ : ∃ NP, NP = (puts rs).length := ⟨_, rfl⟩
  rw [← hNP] at HT2 HP ⊢
  have HNP := hide hNP
  have hNPb := unhide HP
  clear hNP
  obtain ⟨k, hk⟩ : ∃ k, k = cu % (NP + 1) := ⟨_, rfl⟩
  have hkI : ((cu : Nat) : Int) % ((NP : Int) + 1) = ((k : Nat) : Int) := by rw [hk]; push_cast; rfl
  have hkl : k ≤ NP := by rw [hk]; have := Nat.mod_lt cu (show 0 < NP + 1 by omega); omega
  have hkc : k ≤ 65535 := by rw [hk]; have := Nat.mod_le cu (NP + 1); omega
  obtain ⟨t, ht0, ht1, ht2⟩ := split_at rs k
  have HT1 := hide ht1
  have HT3 := hide ht2
  have HT0 := hide ht0
  clear ht1 ht2 ht0 hk
  go_upto_region 6 with fail
  rw [hkI]
  clear hkI
  go_wp2_with fail
  go_loopw [9, 10, 38] (fun wh at' i W => ∃ j : Nat, j ≤ n ∧ i = .int .i64 j ∧ wh = .int .i64 ((min t j : Nat) : Int) ∧ at' = .int .i64 ((plen rs (min t j) : Nat) : Int) ∧ W = w2) (fun _ _ i _ => n - (intOf i).toNat)
  case atStart => exact ⟨0, Nat.zero_le _, rfl, by simp, by simp [plen_zero], rfl⟩
  case round =>
    obtain ⟨j, hj, rfl, rfl, rfl, rfl⟩ := hrel
    by_cases hlt : j < n
    · obtain ⟨g, hg, hcell⟩ := (unhide HT2).o2.at (by rw [ends_len]; exact unhide HN) hlt
      subst hg
      rw [ends_at rs (by rw [unhide HN]; exact hlt)] at hcell
      have i1 : (j : Int) < (n : Int) := by omega
      by_cases hjt : j < t
      · have hle := unhide HT1 (j + 1) (by omega)
        have e1 : min t j = j := by omega
        have E2 : Hid (min t (j + 1) = j + 1) := by show _ = _; omega
        rw [e1]
        have HSH : Hid (plen rs (j + 1) ≤ 1099511627776) := by show _ ≤ _; omega
        generalize plen rs j = p0 at *
        obtain ⟨p1, hp1⟩ : ∃ p1, p1 = plen rs (j + 1) := ⟨_, rfl⟩
        rw [← hp1] at hle hcell HSH
        have HP1 := hide hp1
        have hle' : (p1 : Int) ≤ (k : Int) := by omega
        clear hp1
        go_wp2_with fail
        exact ⟨⟨j + 1, by omega, by go_num, by rw [unhide E2]; go_num, by rw [unhide E2, ← unhide HP1], by trivial⟩, by simp [intOf]; omega⟩
      · have hgt := unhide HT3 (j + 1) (by omega) (by rw [unhide HN]; omega)
        have e1 : min t j = t := by omega
        have E2 : Hid (min t (j + 1) = t) := by show _ = _; omega
        rw [e1]
        obtain ⟨p0, hp0⟩ : ∃ p0, p0 = plen rs t := ⟨_, rfl⟩
        rw [← hp0]
        have HP0 := hide hp0
        clear hp0
        generalize plen rs (j + 1) = p1 at *
        have hgt' : ¬ (p1 : Int) ≤ (k : Int) := by omega
        go_wp2_with fail
        exact ⟨⟨j + 1, by omega, by go_num, by rw [unhide E2], by rw [unhide E2, ← unhide HP0], by trivial⟩, by simp [intOf]; omega⟩
    · have ej : n = j := by omega
      subst ej
      have e1 : min t n = t := by have := unhide HT0; rw [unhide HN] at this; omega
      rw [e1]
      clear e1
      have htn : t ≤ n := by have := unhide HT0; rw [unhide HN] at this; exact this
      obtain ⟨sa, sc, BS, q, q'⟩ := slice_to (h := k) (bytes_of_owns (unhide HT2).o1.own) hkl
      obtain ⟨ya, yc, hY, y1, y2⟩ := slice_recs (h := t) (unhide HR2) (unhide HN) htn
      have HBS := hide BS
      have HY := hide hY
      have HCA : Hid (∀ ss m x, AllIs ((puts rs).take k) ss m x → ss = rs.take t ∧ m = plen rs t ∧ ((x = 0 ∧ plen rs t = k) ∨ (x = 32 ∧ ¬ plen rs t = k))) := fun ss m x hA =>
        cut_all rs (unhide HRT) (by rw [← unhide HNP]; exact hkl) (unhide HT0) (unhide HT1 t (Nat.le_refl _)) (fun hlt => unhide HT3 (t + 1) (by omega) (by omega)) hA
      have HBB := hide (unhide HT2).o1.bb
      have HSH : Hid ((rs.take t).length ≤ 1048576) := by show _ ≤ _; rw [List.length_take]; have := unhide HN; omega
      clear BS hY HT2 HT1 HT3 HR2
      obtain ⟨p0, hp0⟩ : ∃ p0, p0 = plen rs t := ⟨_, rfl⟩
      rw [← hp0] at HCA ⊢
      clear hp0
      go_wp2_with fail
      refine ((unhide HC).all sa k sc _ _ (unhide HBS) (by omega)).mono ?_
      rintro e w3 ⟨l3, ss, m, x, rfl, hA, hR, hb⟩
      obtain ⟨rfl, rfl, hx⟩ := unhide HCA _ _ _ hA
      obtain ⟨ga, gc, eg, _⟩ := hR.form
      subst eg
      have HR3 := hide hR
      have HY3 := hide ((unhide HY).later hb)
      have HB3 := hide ((unhide HBB).trans (hb.mono (unhide HBB).size))
      clear hR hA hb HY HBB HCA HBS
      have htl : (rs.take t).length = t := by rw [List.length_take]; have := unhide HN; omega
      rw [htl] at HR3 ⊢
      go_wp2_with fail
      refine (low_sameRecs _ _ (rs.take t) (rs.take t) _ (unhide HR3) (unhide HY3) (unhide HSH)).mono ?_
      rintro e w4 ⟨bb, rfl, hiff, hb⟩
      obtain rfl : bb = true := hiff.2 rfl
      have HB4 := hide ((unhide HB3).trans (hb.mono (unhide HB3).size))
      clear hiff hb HB3 HR3 HY3
      rcases hx with ⟨rfl, hx⟩ | ⟨rfl, hx⟩
      · subst hx
        go_wp2_with fail
        refine (awake_any (unhide HC) _).mono ?_
        rintro e w5 ⟨rfl, hb⟩
        have HB5 := hide ((unhide HB4).trans (hb.mono (unhide HB4).size))
        clear hb HB4
        go_wp2_with fail
        go_ret
        exact ⟨rfl, unhide HB5⟩
      · have hx2 : ((m : Int) == (k : Int)) = false := beq_eq_false_iff_ne.2 (by omega)
        go_wp2_with fail
        refine (awake_any (unhide HC) _).mono ?_
        rintro e w5 ⟨rfl, hb⟩
        have HB5 := hide ((unhide HB4).trans (hb.mono (unhide HB4).size))
        clear hb HB4
        go_wp2_with fail
        go_ret
        exact ⟨rfl, unhide HB5⟩
end
end Go.Proofs.Ytfaoailiamcchaa
