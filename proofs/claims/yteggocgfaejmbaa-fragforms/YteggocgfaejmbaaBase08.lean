/- FragRefC, WireRefT, WireRefS: our own definitions and contracts; no statement of the seat is proved here. -/
import Derived.Test.YteggocgfaejmbaaBase07
import Derived.Test.YteggocgfaejmbaaBase06
import Derived.Test.YteggocgfaejmbaaBase03
namespace Go.Proofs.Yteggocgfaejmbaa
open Go.RowKit

theorem two_allocsF (w : World) (c1 c2 : Array Value) (t1 t2 : TypeId) : ((w.alloc (.cells c1 t1)).alloc (.cells c2 t2)).drew.heap[w.heap.size]? = some (.cells c1 t1 (0, 0)) ∧ ((w.alloc (.cells c1 t1)).alloc (.cells c2 t2)).drew.heap[w.heap.size + 1]? = some (.cells c2 t2 (0, 0)) ∧ Below w.heap.size w ((w.alloc (.cells c1 t1)).alloc (.cells c2 t2)).drew := by
  refine ⟨?_, ?_, (((Below.refl _ w).alloc (Nat.le_refl _) _).alloc (by rw [World.size_alloc]; omega) _).drew⟩
  · have h := heap_alloc_new w (.cells c1 t1)
    exact (((Below.refl _ _).alloc (Nat.le_refl _) (.cells c2 t2) : Below (w.alloc (.cells c1 t1)).heap.size (w.alloc (.cells c1 t1)) _).block _ (by rw [World.size_alloc]; omega)).trans h
  · have h := heap_alloc_new (w.alloc (.cells c1 t1)) (.cells c2 t2)
    rw [World.size_alloc] at h
    exact h

set_option maxRecDepth 100000 in
set_option maxHeartbeats 4000000 in
theorem rSame_any (l l2 : List FI) (B B2 : Nat → Prop) (u u2 : Value) (w : World) (h : FragAt B w l u) (h2 : FragAt B2 w l2 u2) (hsm : SmallF l) : Calls Try.prog 17 #[u, u2] w fun e w' => e = .returned (.bool (sameF l l2)) ∧ Below w.heap.size w w' := by
  obtain ⟨a, c, rfl, hlc, hcm, hS⟩ := h
  obtain ⟨a2, c2, rfl, hlc2, hcm2, hS2⟩ := h2
  obtain ⟨n, hn⟩ : ∃ n, n = l.length := ⟨_, rfl⟩
  obtain ⟨n2, hn2⟩ : ∃ n, n = l2.length := ⟨_, rfl⟩
  have hn6 : n ≤ 100 := by rw [hn]; exact hsm.1
  rw [← hn, ← hn2]
  have HN := hide hn
  have HN2 := hide hn2
  have HE := hide hS
  have HE2 := hide hS2
  have HSM := hide hsm.2
  have HB0 := hide (Below.refl w.heap.size w)
  clear hn hn2 hlc hcm hS hlc2 hcm2 hS2 hsm
  by_cases hl : n = n2
  case neg =>
    have gl : (((n : Nat) : Int) == ((n2 : Nat) : Int)) = false := by rw [beq_eq_false_iff_ne]; omega
    have gl2 : (((n : Nat) : Int) != ((n2 : Nat) : Int)) = true := by rw [bne, gl]; rfl
    have gl3 : (n == n2) = false := beq_eq_false_iff_ne.2 hl
    have gl4 : (n != n2) = true := by rw [bne, gl3]; rfl
    have HD : Hid (sameF l l2 = false) := sameF_length (by rw [← unhide HN, ← unhide HN2]; exact hl)
    clear hl
    go_enter Try.func17, Try.ntmps17
    go_wp2_with fail
    go_ret
    exact ⟨ret_bool (unhide HD).symm, unhide HB0⟩
  have gl : (((n : Nat) : Int) == ((n2 : Nat) : Int)) = true := by rw [beq_iff_eq]; omega
  have gl2 : (((n : Nat) : Int) != ((n2 : Nat) : Int)) = false := by rw [bne, gl]; rfl
  have gl3 : (n == n2) = true := beq_iff_eq.2 hl
  have gl4 : (n != n2) = false := by rw [bne, gl3]; rfl
  have HLL := hide hl
  clear hl
  go_enter Try.func17, Try.ntmps17
  go_wp2_with fail
  clear gl gl2 gl3 gl4
  go_loopw [5] (fun k W => ∃ j : Nat, j ≤ n ∧ k = .int .i64 ((j : Nat) : Int) ∧ sameF (l.take j) (l2.take j) = true ∧ Below w.heap.size w W) (fun k _ => n - (intOf k).toNat)
  case atStart => exact ⟨0, by omega, rfl, rfl, unhide HB0⟩
  case round =>
    obtain ⟨j, hj, rfl, hkt, hb⟩ := hrel
    have HB := hide hb
    have HKT := hide hkt
    by_cases hlt : j < n
    · have hji : ((j : Nat) : Int) < ((n : Nat) : Int) := by omega
      have hjl : j < l.length := by have := unhide HN; omega
      have hjl2 : j < l2.length := by have := unhide HN2; have := unhide HLL; omega
      have hjn2 : j < n2 := by have := unhide HLL; omega
      have hji2 : ((j : Nat) : Int) < ((n2 : Nat) : Int) := by omega
      have hk : ∀ {p : Addr} {x : Value}, w.cell? p = some x → wr.cell? p = some x := fun hx => (hb.cell (World.block_lt_of_cell? _ _ hx)).trans hx
      obtain ⟨b, o, z, K, pa, pn, pc, zo, wd, qt, rfl, _, x0, x1, x2, x3, x4, x5, he⟩ := (unhide HE j hjl).out
      obtain ⟨b', o', z', K', pa', pn', pc', zo', wd', qt', rfl, _, y0, y1, y2, y3, y4, y5, he'⟩ := (unhide HE2 j hjl2).out
      have p0 := hk x0
      have p1 := hk x1
      have p2 := hk x2
      have p3 := hk x3
      have p4 := hk x4
      have p5 := hk x5
      have q0 := hk y0
      have q1 := hk y1
      have q2 := hk y2
      have q3 := hk y3
      have q4 := hk y4
      have q5 := hk y5
      have hp := (he.later hb).parts
      have hp2 := (he'.later hb).parts
      clear hk x0 x1 x2 x3 x4 x5 y0 y1 y2 y3 y4 y5 hkt hb
      go_upto_region 6 with fail
      go_cut [6, 7] (fun t6 t7 wx => ∃ g6 g7, t6 = .pointer (some ⟨g6, 0, none⟩) ∧ t7 = .pointer (some ⟨g7, 0, none⟩) ∧ wx.heap[g6]? = some (.cells #[.string z, .int .u8 ((K : Nat) : Int), .slice pa pn pc, .string zo, .int .i64 wd, .int .i64 qt] 47 (0, 0)) ∧ wx.heap[g7]? = some (.cells #[.string z', .int .u8 ((K' : Nat) : Int), .slice pa' pn' pc', .string zo', .int .i64 wd', .int .i64 qt'] 47 (0, 0)) ∧ Below wr.heap.size wr wx)
      case first =>
        have HKS : Hid (∀ X, Below wr.heap.size wr X → X.cell? ⟨b, o + j * 6, none⟩ = some (.string z) ∧ X.cell? ⟨b, o + j * 6 + 1, none⟩ = some (.int .u8 ((K : Nat) : Int)) ∧ X.cell? ⟨b, o + j * 6 + 2, none⟩ = some (.slice pa pn pc) ∧ X.cell? ⟨b, o + j * 6 + 3, none⟩ = some (.string zo) ∧ X.cell? ⟨b, o + j * 6 + 4, none⟩ = some (.int .i64 wd) ∧ X.cell? ⟨b, o + j * 6 + 5, none⟩ = some (.int .i64 qt) ∧ X.cell? ⟨b', o' + j * 6, none⟩ = some (.string z') ∧ X.cell? ⟨b', o' + j * 6 + 1, none⟩ = some (.int .u8 ((K' : Nat) : Int)) ∧ X.cell? ⟨b', o' + j * 6 + 2, none⟩ = some (.slice pa' pn' pc') ∧ X.cell? ⟨b', o' + j * 6 + 3, none⟩ = some (.string zo') ∧ X.cell? ⟨b', o' + j * 6 + 4, none⟩ = some (.int .i64 wd') ∧ X.cell? ⟨b', o' + j * 6 + 5, none⟩ = some (.int .i64 qt') ∧ Below wr.heap.size wr X) := fun X hX => ⟨(hX.cell (World.block_lt_of_cell? _ _ p0)).trans p0, (hX.cell (World.block_lt_of_cell? _ _ p1)).trans p1, (hX.cell (World.block_lt_of_cell? _ _ p2)).trans p2, (hX.cell (World.block_lt_of_cell? _ _ p3)).trans p3, (hX.cell (World.block_lt_of_cell? _ _ p4)).trans p4, (hX.cell (World.block_lt_of_cell? _ _ p5)).trans p5, (hX.cell (World.block_lt_of_cell? _ _ q0)).trans q0, (hX.cell (World.block_lt_of_cell? _ _ q1)).trans q1, (hX.cell (World.block_lt_of_cell? _ _ q2)).trans q2, (hX.cell (World.block_lt_of_cell? _ _ q3)).trans q3, (hX.cell (World.block_lt_of_cell? _ _ q4)).trans q4, (hX.cell (World.block_lt_of_cell? _ _ q5)).trans q5, hX⟩
        go_region_held3 (fun X => X.cell? ⟨b, o + j * 6, none⟩ = some (.string z) ∧ X.cell? ⟨b, o + j * 6 + 1, none⟩ = some (.int .u8 ((K : Nat) : Int)) ∧ X.cell? ⟨b, o + j * 6 + 2, none⟩ = some (.slice pa pn pc) ∧ X.cell? ⟨b, o + j * 6 + 3, none⟩ = some (.string zo) ∧ X.cell? ⟨b, o + j * 6 + 4, none⟩ = some (.int .i64 wd) ∧ X.cell? ⟨b, o + j * 6 + 5, none⟩ = some (.int .i64 qt) ∧ X.cell? ⟨b', o' + j * 6, none⟩ = some (.string z') ∧ X.cell? ⟨b', o' + j * 6 + 1, none⟩ = some (.int .u8 ((K' : Nat) : Int)) ∧ X.cell? ⟨b', o' + j * 6 + 2, none⟩ = some (.slice pa' pn' pc') ∧ X.cell? ⟨b', o' + j * 6 + 3, none⟩ = some (.string zo') ∧ X.cell? ⟨b', o' + j * 6 + 4, none⟩ = some (.int .i64 wd') ∧ X.cell? ⟨b', o' + j * 6 + 5, none⟩ = some (.int .i64 qt') ∧ Below wr.heap.size wr X)
          ((refine unhide HKS _ ?_; first | assumption | exact (Below.refl _ _).drew | exact ((Below.refl _ wr).alloc (Nat.le_refl _) _).drew | exact (((Below.refl _ wr).alloc (Nat.le_refl _) _).alloc (by rw [World.size_alloc]; omega) _).drew))
          (fail)
        all_goals (go_wp2_with fail; go_meet)
        · obtain ⟨r1, r2, r3⟩ := two_allocsF wr #[.string z, .int .u8 ((K : Nat) : Int), .slice pa pn pc, .string zo, .int .i64 wd, .int .i64 qt] #[.string z', .int .u8 ((K' : Nat) : Int), .slice pa' pn' pc', .string zo', .int .i64 wd', .int .i64 qt'] 47 47
          exact ⟨_, _, rfl, rfl, r1, r2, r3⟩
        · obtain ⟨r1, r2, r3⟩ := two_allocsF wr #[.string z', .int .u8 ((K' : Nat) : Int), .slice pa' pn' pc', .string zo', .int .i64 wd', .int .i64 qt'] #[.string z, .int .u8 ((K : Nat) : Int), .slice pa pn pc, .string zo, .int .i64 wd, .int .i64 qt] 47 47
          exact ⟨_, _, rfl, rfl, r2, r1, r3⟩
      obtain ⟨g6, g7, rfl, rfl, hg6, hg7, hbc⟩ := hcut
      have HBC := hide ((unhide HB).trans (hbc.mono (unhide HB).size))
      have HG6 := hide hg6
      have HG7 := hide hg7
      obtain ⟨i0, i1, i2, i3, i4, i5⟩ := cells6 hg6
      obtain ⟨k0, k1, k2, k3, k4, k5⟩ := cells6 hg7
      have HST : Hid (∀ X, Below wc.heap.size wc X → StrsAt B X pa l[j].after ∧ StrsAt B2 X pa' l2[j].after) := fun X hX =>
        have hb := hbc.trans (hX.mono hbc.size)
        ⟨hp.strs.kept (fun k _ hk => hb.block k hk) (fun _ h _ => h), hp2.strs.kept (fun k _ hk => hb.block k hk) (fun _ h _ => h)⟩
      have HTS := hide (sameF_take_succ hjl hjl2)
      have HFL := hide (sameF_at_false hjl hjl2)
      have HV : Hid ((l[j]).same (l2[j]) = (decide (l[j].name = l2[j].name) && (decide (K = K') && (decide (l[j].after = l2[j].after) && (decide (l[j].over = l2[j].over) && (decide (wd = wd') && decide (qt = qt'))))))) := by show _ = _; rw [FI.same_parts, hp.kd, hp2.kd, hp.wd, hp2.wd, hp.qt, hp2.qt]
      have hse := str_eq l[j].name l2[j].name
      have hso := str_eq l[j].over l2[j].over
      rw [← hp.nm, ← hp2.nm] at hse
      rw [← hp.ov, ← hp2.ov] at hso
      have HAN := hide hp.an
      have HAN2 := hide hp2.an
      have hpn : pn ≤ 40 := by rw [hp.an]; exact (unhide HSM _ (List.getElem_mem hjl)).2.2.1
      generalize (l[j]).same (l2[j]) = R at *
      obtain ⟨en, hen⟩ : ∃ e, e = decide (l[j].name = l2[j].name) := ⟨_, rfl⟩
      obtain ⟨eo, heo⟩ : ∃ e, e = decide (l[j].over = l2[j].over) := ⟨_, rfl⟩
      rw [← hen, ← heo] at HV
      rw [← hen] at hse
      rw [← heo] at hso
      generalize l[j].after = af at *
      generalize l2[j].after = af2 at *
      have hsen : (z.toList != z'.toList) = !en := by rw [bne, hse]
      have hson : (zo.toList != zo'.toList) = !eo := by rw [bne, hso]
      clear hp hp2 he he' hg6 hg7 hbc hen heo p0 p1 p2 p3 p4 p5 q0 q1 q2 q3 q4 q5
      cases en with
      | false =>
        have hsen : (z.toList != z'.toList) = true := hsen
        have HD : Hid (sameF l l2 = false) := unhide HFL (by rw [unhide HV]; simp)
        go_wp2_with fail
        go_ret
        exact ⟨ret_bool (unhide HD).symm, unhide HBC⟩
      | true =>
      have hsen : (z.toList != z'.toList) = false := hsen
      by_cases hk : K = K'
      case neg =>
        have gk : (((K : Nat) : Int) == ((K' : Nat) : Int)) = false := by rw [beq_eq_false_iff_ne]; omega
        have gk2 : (((K : Nat) : Int) != ((K' : Nat) : Int)) = true := by rw [bne, gk]; rfl
        have gk3 : (K == K') = false := beq_eq_false_iff_ne.2 hk
        have gk4 : (K != K') = true := by rw [bne, gk3]; rfl
        have HD : Hid (sameF l l2 = false) := unhide HFL (by rw [unhide HV, decide_eq_false hk]; simp)
        clear hk
        go_wp2_with fail
        go_ret
        exact ⟨ret_bool (unhide HD).symm, unhide HBC⟩
      have gk : (((K : Nat) : Int) == ((K' : Nat) : Int)) = true := by rw [beq_iff_eq]; omega
      have gk2 : (((K : Nat) : Int) != ((K' : Nat) : Int)) = false := by rw [bne, gk]; rfl
      have gk3 : (K == K') = true := beq_iff_eq.2 hk
      have gk4 : (K != K') = false := by rw [bne, gk3]; rfl
      have HKK := hide hk
      clear hk
      by_cases hm : pn = pn'
      case neg =>
        have gm : (((pn : Nat) : Int) == ((pn' : Nat) : Int)) = false := by rw [beq_eq_false_iff_ne]; omega
        have gm2 : (((pn : Nat) : Int) != ((pn' : Nat) : Int)) = true := by rw [bne, gm]; rfl
        have gm3 : (pn == pn') = false := beq_eq_false_iff_ne.2 hm
        have gm4 : (pn != pn') = true := by rw [bne, gm3]; rfl
        have HD : Hid (sameF l l2 = false) := unhide HFL (by
          have hne : af ≠ af2 := fun e => hm (by rw [unhide HAN, unhide HAN2, e])
          rw [unhide HV, decide_eq_false hne]; simp)
        clear hm
        go_wp2_with fail
        go_ret
        exact ⟨ret_bool (unhide HD).symm, unhide HBC⟩
      have gm : (((pn : Nat) : Int) == ((pn' : Nat) : Int)) = true := by rw [beq_iff_eq]; omega
      have gm2 : (((pn : Nat) : Int) != ((pn' : Nat) : Int)) = false := by rw [bne, gm]; rfl
      have gm3 : (pn == pn') = true := beq_iff_eq.2 hm
      have gm4 : (pn != pn') = false := by rw [bne, gm3]; rfl
      have HMM := hide hm
      clear hm
      cases eo with
      | false =>
        have hson : (zo.toList != zo'.toList) = true := hson
        have HD : Hid (sameF l l2 = false) := unhide HFL (by rw [unhide HV]; simp)
        go_wp2_with fail
        go_ret
        exact ⟨ret_bool (unhide HD).symm, unhide HBC⟩
      | true =>
      have hson : (zo.toList != zo'.toList) = false := hson
      by_cases hw : wd = wd'
      case neg =>
        have gw : (wd == wd') = false := beq_eq_false_iff_ne.2 hw
        have gw2 : (wd != wd') = true := by rw [bne, gw]; rfl
        have HD : Hid (sameF l l2 = false) := unhide HFL (by rw [unhide HV, decide_eq_false hw]; simp)
        clear hw
        go_wp2_with fail
        go_ret
        exact ⟨ret_bool (unhide HD).symm, unhide HBC⟩
      have gw : (wd == wd') = true := beq_iff_eq.2 hw
      have gw2 : (wd != wd') = false := by rw [bne, gw]; rfl
      have HWW := hide hw
      clear hw
      by_cases hq : qt = qt'
      case neg =>
        have gq : (qt == qt') = false := beq_eq_false_iff_ne.2 hq
        have gq2 : (qt != qt') = true := by rw [bne, gq]; rfl
        have HD : Hid (sameF l l2 = false) := unhide HFL (by rw [unhide HV, decide_eq_false hq]; simp)
        clear hq
        go_wp2_with fail
        go_ret
        exact ⟨ret_bool (unhide HD).symm, unhide HBC⟩
      have gq : (qt == qt') = true := beq_iff_eq.2 hq
      have gq2 : (qt != qt') = false := by rw [bne, gq]; rfl
      have HV2 : Hid (R = decide (af = af2)) := by show _ = _; rw [unhide HV, decide_eq_true (unhide HKK), decide_eq_true (unhide HWW), decide_eq_true hq]; simp
      clear hq HV
      go_wp2_with fail
      clear hse hso hsen hson gk gk2 gk3 gk4 gm gm2 gm3 gm4 gw gw2 gq gq2
      go_loopw [8] (fun k W => ∃ i : Nat, i ≤ pn ∧ k = .int .i64 ((i : Nat) : Int) ∧ af.take i = af2.take i ∧ Below wc.heap.size wc W) (fun k _ => pn - (intOf k).toNat)
      case atStart => exact ⟨0, by omega, rfl, by simp, Below.refl _ _⟩
      case round =>
        obtain ⟨i, hi, rfl, hit, hb⟩ := hrel
        have m2 := (hb.cell (World.block_lt_of_cell? _ _ i2)).trans i2
        have n2' := (hb.cell (World.block_lt_of_cell? _ _ k2)).trans k2
        have HBW := hide ((unhide HBC).trans (hb.mono (unhide HBC).size))
        have HBI := hide hb
        by_cases hil : i < pn
        · have hii : ((i : Nat) : Int) < ((pn : Nat) : Int) := by omega
          have hia : i < af.length := by have := unhide HAN; omega
          have hia2 : i < af2.length := by have := unhide HAN2; have := unhide HMM; omega
          have hin2 : i < pn' := by have := unhide HMM; omega
          have hii2 : ((i : Nat) : Int) < ((pn' : Nat) : Int) := by omega
          obtain ⟨s1, s2⟩ := unhide HST _ hb
          obtain ⟨b5, o5, rfl, _, x0, _⟩ := s1 i hia
          obtain ⟨b6, o6, rfl, _, y0, _⟩ := s2 i hia2
          have hse := str_eq af[i] af2[i]
          have HTS2 := hide (eqL_take_succ hia hia2 hit)
          have HTF2 := hide (eqL_false hia hia2)
          obtain ⟨q, hq⟩ : ∃ q, q = decide (af[i] = af2[i]) := ⟨_, rfl⟩
          rw [← hq] at hse
          have HQ := hide hq
          generalize (⟨af[i].toArray⟩ : ByteArray) = z1 at *
          generalize (⟨af2[i].toArray⟩ : ByteArray) = z2 at *
          have hsn : (z1.toList != z2.toList) = !q := by rw [bne, hse]
          clear hq s1 s2 hit hb
          cases q with
          | true =>
            have HT : Hid (af.take (i + 1) = af2.take (i + 1)) := unhide HTS2 (of_decide_eq_true (unhide HQ).symm)
            have hsn : (z1.toList != z2.toList) = false := hsn
            go_upto_region 12 with fail
            go_quiet (fail)
            go_wp2_with fail
            exact ⟨⟨i + 1, by omega, by go_num, unhide HT, (unhide HBI).trans ((below_drewN _ _).mono (unhide HBI).size)⟩, by simp [intOf]; omega⟩
          | false =>
            have HD : Hid (sameF l l2 = false) := unhide HFL (by rw [unhide HV2]; exact decide_eq_false (unhide HTF2 (of_decide_eq_false (unhide HQ).symm)))
            have hsn : (z1.toList != z2.toList) = true := hsn
            go_upto_region 12 with fail
            go_quiet (fail)
            go_wp2_with fail
            go_ret
            exact ⟨ret_bool (unhide HD).symm, (unhide HBW).trans ((below_drewN _ _).mono (unhide HBW).size)⟩
        · have e : i = pn := by omega
          have hii : ¬ ((i : Nat) : Int) < ((pn : Nat) : Int) := by omega
          have HR : Hid (R = true) := by
            show _ = _
            rw [unhide HV2]
            refine decide_eq_true ?_
            have h := hit
            rwa [List.take_of_length_le (by have := unhide HAN; omega), List.take_of_length_le (by have := unhide HAN2; have := unhide HMM; omega)] at h
          clear e hit hb hil
          go_wp2_with fail
          exact ⟨⟨j + 1, by omega, by go_num, by rw [unhide HTS, unhide HKT, unhide HR]; rfl, unhide HBW⟩, by simp [intOf]; omega⟩
    · have e : j = n := by omega
      have hji : ¬ ((j : Nat) : Int) < ((n : Nat) : Int) := by omega
      have HD : Hid (sameF l l2 = true) := by
        show _ = _
        rw [← unhide HKT, List.take_of_length_le (by have := unhide HN; omega), List.take_of_length_le (by have := unhide HN2; have := unhide HLL; omega)]
      clear e hkt hb
      go_wp2_with fail
      go_ret
      exact ⟨ret_bool (unhide HD).symm, unhide HB⟩
end Go.Proofs.Yteggocgfaejmbaa

namespace Go.Proofs.Yteggocgfaejmbaa
open Go.RowKit

/-- What the document's TakeNum tells of bytes. -/
def RefNum (bs : List UInt8) (e : Ending) : Prop :=
  (∃ (x : Int) (k : Nat), Reads bs x k ∧ e = .returned (.tuple #[.int .i64 x, .int .i64 ((k : Nat) : Int)])) ∨ (NoNum bs ∧ e = .returned (.tuple #[.int .i64 0, .int .i64 0]))

theorem pow128_le {j : Nat} (h : j ≤ 9) : 128 ^ j ≤ 9223372036854775808 := by
  have h1 := Nat.pow_le_pow_right (n := 128) (by omega) h
  have h2 : (128 ^ 9 : Nat) = 9223372036854775808 := by decide
  omega

set_option maxRecDepth 100000 in
set_option maxHeartbeats 4000000 in
theorem wRefTakeNum_any (u : Value) (bs : List UInt8) (w : World) (h : Bytes w u bs) (hl : bs.length ≤ 1048576) : Calls Try.prog 38 #[u] w fun e w' => RefNum bs e ∧ w' = w := by
  obtain ⟨a, c, rfl, hlc⟩ := h.form
  obtain ⟨n, hn⟩ : ∃ n, n = bs.length := ⟨_, rfl⟩
  rw [← hn] at h hlc hl ⊢
  have HH := hide h
  have HN := hide hn
  clear h hn
  go_enter Try.func38, Try.ntmps38
  go_wp2
  go_loopw [4, 5, 6] (fun u v k W => ∃ j U V : Nat, j ≤ n ∧ j ≤ 10 ∧ k = .int .i64 j ∧ u = .int .u64 ((U : Nat) : Int) ∧ v = .int .u64 ((V : Nat) : Int) ∧ Highs (bs.take j) ∧ (j ≤ 9 → U = val (bs.take j) ∧ V = 128 ^ j) ∧ W = w) (fun _ _ k _ => n - (intOf k).toNat)
  case atStart => exact ⟨0, 0, 1, by omega, by omega, rfl, rfl, rfl, fun x hx => by simp at hx, fun _ => ⟨by simp [val], rfl⟩, rfl⟩
  case round =>
    obtain ⟨j, U, V, hj, hj10, rfl, rfl, rfl, hH, hUV, hw⟩ := hrel
    rw [hw]
    clear hw
    have HHI := hide hH
    by_cases hlt : j < n
    · by_cases h9 : j ≤ 9
      · obtain ⟨hU, hV⟩ := hUV h9
        have hl1 : (bs.take j).length = j := by rw [List.length_take]; have := unhide HN; omega
        have hUV2 := val_lt (bs.take j)
        rw [hl1, ← hU, ← hV] at hUV2
        have hVm : V ≤ 9223372036854775808 := by rw [hV]; exact pow128_le h9
        have hV8 : j ≤ 8 → V ≤ 72057594037927936 := fun h8 => by
          rw [hV]
          have h1 := Nat.pow_le_pow_right (n := 128) (by omega) h8
          have h2 : (128 ^ 8 : Nat) = 72057594037927936 := by decide
          omega
        have hVs : 128 ^ (j + 1) = V * 128 := by rw [hV, Nat.pow_succ]
        have HVS := hide hVs
        obtain ⟨ad, rfl, hc⟩ := (unhide HH).at hlt (unhide HN).symm
        have hk1 : (j : Int) < (n : Int) := by omega
        have hk2 : (j : Int) < 10 := by omega
        have HP : Hid (bs = bs.take j ++ bs.getD j 0 :: bs.drop (j + 1)) := by
          show _ = _
          rw [List.getD_eq_getElem?_getD, List.getElem?_eq_getElem (by have := unhide HN; omega), Option.getD_some, ← List.drop_eq_getElem_cons, List.take_append_drop]
        have HSU : Hid (bs.take (j + 1) = bs.take j ++ [bs.getD j 0]) := by
          show _ = _
          rw [List.getD_eq_getElem?_getD, List.getElem?_eq_getElem (by have := unhide HN; omega), List.take_succ_eq_append_getElem (by have := unhide HN; omega)]
          rfl
        have HL1 := hide hl1
        have HU := hide hU
        have HV := hide hV
        clear hU hV hUV hH hl1 hVs
        generalize hyy : bs.getD j 0 = y at *
        have hyb := y.toNat_lt
        obtain ⟨x, hx⟩ : ∃ x, x = y.toNat % 128 := ⟨_, rfl⟩
        have hxc : ((y.toNat : Nat) : Int) % 128 = ((x : Nat) : Int) := by omega
        have hx128 : x < 128 := by omega
        have HX := hide hx
        clear hx hyy
        by_cases hbig : j = 9 ∧ 1 < x
        · obtain ⟨hj9, h1x⟩ := hbig
          have hx1 : decide (((x : Nat) : Int) > 1) = true := decide_eq_true (by omega)
          have hb9 : (((j : Nat) : Int) == 9) = true := by rw [beq_iff_eq]; omega
          have HJ9 := hide hj9
          have H1X := hide h1x
          clear hj9 h1x
          go_wp2_with fail
          go_ret2
          refine ⟨.inr ⟨?_, rfl⟩, rfl⟩
          by_cases hy : y.toNat < 128
          · rw [unhide HP]
            exact noNum_big (unhide HHI) (by have := unhide HX; have := unhide H1X; omega) hy (by rw [unhide HL1]; exact unhide HJ9)
          · refine noNum_highs (k := j + 1) ?_ (.inl (by have := unhide HJ9; omega))
            rw [unhide HSU]
            intro z hz
            rcases List.mem_append.1 hz with h1 | h1
            · exact unhide HHI z h1
            · rw [List.mem_singleton.1 h1]; omega
        · have HPX : Hid (x * V ≤ 9223372036854775808 * 127 ∧ U + x * V < 18446744073709551616) := by
            show _ ∧ _
            by_cases h8 : j ≤ 8
            · have h1 := hV8 h8
              have h2 : x * V ≤ 127 * V := Nat.mul_le_mul_right _ (by omega)
              omega
            · have h9 : j = 9 := by omega
              have h1 : x ≤ 1 := by omega
              have h2 : x * V ≤ 1 * V := Nat.mul_le_mul_right _ h1
              omega
          obtain ⟨P, hP⟩ : ∃ P, P = x * V := ⟨_, rfl⟩
          have hpi : ((x : Nat) : Int) * ((V : Nat) : Int) = ((P : Nat) : Int) := by rw [hP, Int.natCast_mul]
          rw [← hP] at HPX
          have hp1 := (unhide HPX).1
          have hp2 := (unhide HPX).2
          have HPD := hide hP
          clear hP
          obtain ⟨S, hS⟩ : ∃ S, S = U + P := ⟨_, rfl⟩
          have hsi : ((U : Nat) : Int) + ((P : Nat) : Int) = ((S : Nat) : Int) := by omega
          have hs64 : S < 18446744073709551616 := by omega
          have HUP : Hid (S = val (bs.take j ++ [y])) := by
            show _ = _
            rw [hS, val_append, unhide HL1, ← unhide HU, ← unhide HV]
            simp only [val]
            rw [Nat.mul_zero, Nat.add_zero, ← unhide HX, unhide HPD, Nat.mul_comm]
          obtain ⟨V2, hV2, hwV⟩ : ∃ V2 : Nat, (j ≤ 8 → V2 = 128 ^ (j + 1)) ∧ IntKind.u64.wrap (((V : Nat) : Int) * 128) = ((V2 : Nat) : Int) := by
            refine ⟨V * 128 % 18446744073709551616, fun h8 => ?_, ?_⟩
            · have := hV8 h8
              rw [unhide HVS]
              omega
            · rw [IntKind.wrap_u64]; omega
          have HV2 := hide hV2
          have HBIG := hide hbig
          have HS64 := hide hs64
          have hor : (j = 9 ∧ (((j : Nat) : Int) == 9) = true ∧ decide (((x : Nat) : Int) > 1) = false) ∨ (¬ j = 9 ∧ (((j : Nat) : Int) == 9) = false) := by
            by_cases h : j = 9
            · exact .inl ⟨h, by rw [beq_iff_eq]; omega, decide_eq_false (by omega)⟩
            · exact .inr ⟨h, by rw [beq_eq_false_iff_ne]; omega⟩
          have hpu : P < 18446744073709551616 := by omega
          clear hbig hV2 hS hp1 hp2 hUV2 hVm hV8
          have hwj : IntKind.i64.wrap (((j : Nat) : Int) + 1) = ((j : Nat) : Int) + 1 := by rw [IntKind.wrap_i64]; omega
          rcases hor with ⟨hj9, h9i, hx1⟩ | ⟨hj9, h9i⟩
          all_goals (
            have HJ9 := hide hj9
            clear hj9
            by_cases hy : y.toNat < 128
            · have hyi : ¬ ((y.toNat : Nat) : Int) ≥ 128 := by omega
              by_cases hz : x = 0 ∧ 0 < j
              · have hz1 : (((x : Nat) : Int) == 0) = true := by rw [beq_iff_eq]; omega
                have hz2 : decide (((j : Nat) : Int) > 0) = true := decide_eq_true (by omega)
                have hz2n : decide (0 < j) = true := decide_eq_true (by omega)
                have HZ := hide hz
                clear hz
                go_wp2_with fail
                go_ret2
                refine ⟨.inr ⟨?_, rfl⟩, rfl⟩
                rw [unhide HP]
                refine noNum_zero (unhide HHI) (by have := unhide HX; have := (unhide HZ).1; omega) (fun e => ?_)
                have h1 := unhide HL1
                rw [e] at h1
                have := (unhide HZ).2
                simp at h1
                omega
              · have hzo : ((((x : Nat) : Int) == 0) = true ∧ decide (((j : Nat) : Int) > 0) = false ∧ decide (0 < j) = false) ∨ (((x : Nat) : Int) == 0) = false := by
                  by_cases h : x = 0
                  · exact .inl ⟨by rw [beq_iff_eq]; omega, decide_eq_false (by omega), decide_eq_false (by omega)⟩
                  · exact .inr (by rw [beq_eq_false_iff_ne]; omega)
                have HZ := hide hz
                clear hz
                have HRD : Hid (Reads bs (unz S) (j + 1)) := by
                  have h1 := Reads.made (p := bs.take j) (y := y) (r := bs.drop (j + 1)) (unhide HHI) hy (by
                    by_cases h : x = 0
                    · have hj0 : j = 0 := Nat.eq_zero_of_not_pos fun h' => unhide HZ ⟨h, h'⟩
                      exact .inl (by rw [hj0]; rfl)
                    · exact .inr (by have := unhide HX; omega)) (by
                    rw [unhide HL1]
                    by_cases h : j = 9
                    · refine .inr ⟨h, ?_⟩
                      have h2 : ¬ 1 < x := fun h' => unhide HBIG ⟨h, h'⟩
                      have := unhide HX
                      omega
                    · exact .inl (by omega))
                  rw [← unhide HP, ← unhide HUP, unhide HL1] at h1
                  exact h1
                rcases hzo with ⟨hz1, hz2, hz2n⟩ | hz1 <;> by_cases hodd : S % 2 = 0
                all_goals (
                  first
                  | (have ho : ((S : Nat) : Int) % 2 = 0 := by omega
                     have HUZ : Hid (unz S = ((S / 2 : Nat) : Int)) := by show _ = _; unfold unz; rw [if_neg (by omega)])
                  | (have ho : ¬ ((S : Nat) : Int) % 2 = 0 := by omega
                     have HUZ : Hid (unz S = -((S / 2 : Nat) : Int) - 1) := by show _ = _; unfold unz; rw [if_pos (by omega)])
                  clear hodd
                  go_wp2_with fail
                  go_ret2
                  refine ⟨.inl ⟨_, _, unhide HRD, ?_⟩, rfl⟩
                  rw [unhide HUZ]
                  simp)
            · have hyi : ((y.toNat : Nat) : Int) ≥ 128 := by omega
              go_wp2_with fail
              refine ⟨⟨j + 1, S, V2, by omega, by omega, by go_num, rfl, rfl, ?_, fun h8 => ⟨?_, unhide HV2 (by omega)⟩, trivial⟩, by simp [intOf]; omega⟩
              · rw [unhide HSU]
                intro z hz
                rcases List.mem_append.1 hz with h1 | h1
                · exact unhide HHI z h1
                · rw [List.mem_singleton.1 h1]; omega
              · rw [unhide HSU]; exact unhide HUP)
      · have hj' : j = 10 := by omega
        have hk2 : ¬ ((j : Nat) : Int) < 10 := by omega
        have hk1 : ((j : Nat) : Int) < ((n : Nat) : Int) := by omega
        have HJ := hide hj'
        clear hj' hUV h9 hlt
        go_wp2_with fail
        go_ret2
        exact ⟨.inr ⟨noNum_highs (unhide HHI) (.inl (unhide HJ)), rfl⟩, rfl⟩
    · have e : j = n := by omega
      have hk1 : ¬ ((j : Nat) : Int) < ((n : Nat) : Int) := by omega
      have HE := hide e
      clear e hUV hlt
      go_wp2_with fail
      go_ret2
      exact ⟨.inr ⟨noNum_highs (unhide HHI) (.inr (by have := unhide HE; have := unhide HN; omega)), rfl⟩, rfl⟩
end Go.Proofs.Yteggocgfaejmbaa

namespace Go.Proofs.Yteggocgfaejmbaa
open Go.RowKit

/-- What the document's TakeText tells of bytes. -/
def RefText (bs : List UInt8) (most : Int) (e : Ending) : Prop :=
  (∃ (s : List UInt8) (k : Nat), ReadsT bs most s k ∧ e = .returned (.tuple #[.string ⟨s.toArray⟩, .int .i64 ((k + s.length : Nat) : Int), .bool true])) ∨
  (NoText bs most ∧ e = .returned (.tuple #[.string ⟨#[]⟩, .int .i64 0, .bool false]))

set_option maxRecDepth 100000 in
set_option maxHeartbeats 4000000 in
theorem wRefTakeText_any (u : Value) (bs : List UInt8) (most : Int) (w : World) (h : Bytes w u bs) (hl : bs.length ≤ 1048576) (hmost : InR most) : Calls Try.prog 62 #[u, .int .i64 most] w fun e w' => RefText bs most e ∧ w' = w := by
  obtain ⟨a, c, rfl, hlc⟩ := h.form
  obtain ⟨n, hn⟩ : ∃ n, n = bs.length := ⟨_, rfl⟩
  rw [← hn] at h hlc hl ⊢
  have HH := hide h
  have HN := hide hn
  have HMO := hide hmost
  clear h hn hmost
  go_enter Try.func62, Try.ntmps62
  go_wp2_with fail
  refine (wRefTakeNum_any _ bs _ (unhide HH) (by have := unhide HN; omega)).mono ?_
  rintro e w1 ⟨ht, hw⟩
  rw [hw]
  clear hw w1
  rcases ht with ⟨x, k, hr, rfl⟩ | ⟨hNo, rfl⟩
  · have HR := hide hr
    have hkn := hr.le
    rw [← unhide HN] at hkn
    have hk0 := hr.pos
    obtain ⟨hx1, hx2⟩ := hr.inr
    obtain ⟨d, hd⟩ : ∃ d : Nat, d = n - k := ⟨_, rfl⟩
    have hdi : ((n : Nat) : Int) - ((k : Nat) : Int) = ((d : Nat) : Int) := by omega
    have hdn : d ≤ 1048576 := by omega
    have hkb : (((k : Nat) : Int) == 0) = false := by rw [beq_eq_false_iff_ne]; omega
    have HKN := hide hkn
    have HD := hide hd
    have HK0 := hide hk0
    clear hr hkn hk0 hd
    by_cases hneg : x < 0
    · clear hdi
      go_wp2_with fail
      go_ret3
      exact ⟨.inr ⟨noText_of (unhide HR) (.inl hneg), rfl⟩, rfl⟩
    · by_cases hgm : x > most
      · clear hdi
        go_wp2_with fail
        go_ret3
        exact ⟨.inr ⟨noText_of (unhide HR) (.inr (.inl hgm)), rfl⟩, rfl⟩
      · by_cases hgd : x > ((d : Nat) : Int)
        · go_wp2_with fail
          go_ret3
          exact ⟨.inr ⟨noText_of (unhide HR) (.inr (.inr (by have := unhide HN; have := unhide HD; have := unhide HKN; omega))), rfl⟩, rfl⟩
        · obtain ⟨z, hz⟩ : ∃ z : Nat, x = ((z : Nat) : Int) := ⟨x.toNat, by omega⟩
          subst hz
          obtain ⟨E, hE⟩ : ∃ E : Nat, E = k + z := ⟨_, rfl⟩
          have hEi : ((k : Nat) : Int) + ((z : Nat) : Int) = ((E : Nat) : Int) := by omega
          have hEn : E ≤ n := by have := unhide HKN; have := unhide HD; omega
          have HE := hide hE
          have HRT : Hid (ReadsT bs most ((bs.drop k).take z) k) := by
            have := readsT_of (most := most) (unhide HR) (by omega) (by omega) (by have := unhide HN; have := unhide HD; have h3 := (unhide HR).le; omega)
            rw [Int.toNat_natCast] at this
            exact this
          have HTL : Hid (((bs.drop k).take z).length = z) := by show _ = _; rw [List.length_take, List.length_drop]; have := unhide HN; omega
          clear hE
          have hkE : k ≤ E := by have := unhide HE; omega
          go_wp2
          go_loopw [9, 10] (fun r i W => ∃ (j : Nat), k ≤ j ∧ j ≤ E ∧ i = .int .i64 ((j : Nat) : Int) ∧ r = .string ⟨((bs.drop k).take (j - k)).toArray⟩ ∧ W = w) (fun _ i _ => E - (intOf i).toNat)
          case atStart => exact ⟨k, Nat.le_refl _, hkE, rfl, by rw [Nat.sub_self, List.take_zero], rfl⟩
          case round =>
            obtain ⟨j, hj1, hj2, rfl, rfl, hw⟩ := hrel
            rw [hw]
            clear hw
            by_cases hlt : j < E
            · have hjE : ((j : Nat) : Int) < ((E : Nat) : Int) := by omega
              obtain ⟨sa, sc, hB, q, q', _⟩ := slice_mid (l := j) (h := j + 1) (unhide HH) (by omega) (by omega)
              rw [show j + 1 - j = 1 by omega] at hB q q'
              replace q : ∀ W : World, (Instr.slice 23 (.slice a n c) (some (.int .i64 ((j : Nat) : Int))) (some (.int .i64 (((j : Nat) : Int) + 1))) none).run Try.prog W = .ok (.slice sa 1 sc) W := fun W => q W
              replace q' : ∀ W : World, (Instr.sliceAt 23 (.slice a n c) (some (.int .i64 ((j : Nat) : Int))) (some (.int .i64 (((j : Nat) : Int) + 1))) none).run Try.prog W = .ok (.slice sa 1 sc) W := fun W => q' W
              have cv := run_convert_bytes (P := Try.prog) w 23 9 5 Try.underlying23 Try.underlying5 Try.underlying9 _ _ hB
              have hl1 : ((bs.drop k).take (j - k)).length = j - k := by rw [List.length_take, List.length_drop]; have := unhide HN; omega
              have hl2 : ((bs.drop j).take 1).length = 1 := by rw [List.length_take, List.length_drop]; have := unhide HN; omega
              have ad := run_string_add_lists (P := Try.prog) w ((bs.drop k).take (j - k)) ((bs.drop j).take 1) (by omega) (by omega)
              have hcat : (bs.drop k).take (j - k) ++ (bs.drop j).take 1 = (bs.drop k).take (j + 1 - k) := by
                rw [show j + 1 - k = (j - k) + 1 by omega, List.take_add, List.drop_drop, show k + (j - k) = j by omega]
              rw [hcat] at ad
              have HCV := hide cv
              generalize hs1 : (⟨((bs.drop k).take (j - k)).toArray⟩ : ByteArray) = s1 at *
              generalize hs2 : (⟨((bs.drop j).take 1).toArray⟩ : ByteArray) = s2 at *
              generalize hs3 : (⟨((bs.drop k).take (j + 1 - k)).toArray⟩ : ByteArray) = s3 at *
              have HS3 := hide hs3
              clear hs1 hs2 hs3 hB HCV hl1 hl2 hcat hneg hgm hgd
              go_wp2
              exact ⟨⟨j + 1, by omega, by omega, by go_num, by rw [unhide HS3], trivial⟩, by simp [intOf]; omega⟩
            · have e : j = E := by omega
              have hjE : ¬ ((j : Nat) : Int) < ((E : Nat) : Int) := by omega
              have HTE : Hid ((bs.drop k).take (j - k) = (bs.drop k).take z) := by show _ = _; rw [e, unhide HE, Nat.add_sub_cancel_left]
              rw [unhide HTE]
              generalize hs1 : (⟨((bs.drop k).take z).toArray⟩ : ByteArray) = s1 at *
              have HS1 := hide hs1
              clear hs1 e hneg hgm hgd
              go_wp2
              go_ret3
              refine ⟨.inl ⟨_, _, unhide HRT, ?_⟩, rfl⟩
              rw [unhide HTL, unhide HS1, ← unhide HE]
              rfl
  · go_wp2_with fail
    go_ret3
    exact ⟨.inr ⟨noText_of_noNum hNo, rfl⟩, rfl⟩
end Go.Proofs.Yteggocgfaejmbaa
