/- FragRefC, OpRefA: our own definitions and contracts; no statement of the seat is proved here. -/
import Derived.Test.YtdlbpbglidhlfaaGreatDoorBase15
import Derived.Test.YtdlbpbglidhlfaaGreatDoorBase14
import Derived.Test.YtdlbpbglidhlfaaGreatDoorBase09
import Derived.Test.YtdlbpbglidhlfaaGreatDoorBase08
namespace Go.Proofs.YtdlbpbglidhlfaaGreatDoor
open Go.RowKit

theorem two_allocsF (w : World) (c1 c2 : Array Value) (t1 t2 : TypeId) : ((w.alloc (.cells c1 t1)).alloc (.cells c2 t2)).drew.heap[w.heap.size]? = some (.cells c1 t1 (0, 0)) ∧ ((w.alloc (.cells c1 t1)).alloc (.cells c2 t2)).drew.heap[w.heap.size + 1]? = some (.cells c2 t2 (0, 0)) ∧ Below w.heap.size w ((w.alloc (.cells c1 t1)).alloc (.cells c2 t2)).drew := by
  refine ⟨?_, ?_, (((Below.refl _ w).alloc (Nat.le_refl _) _).alloc (by rw [World.size_alloc]; omega) _).drew⟩
  · have h := heap_alloc_new w (.cells c1 t1)
    exact (((Below.refl _ _).alloc (Nat.le_refl _) (.cells c2 t2) : Below (w.alloc (.cells c1 t1)).heap.size (w.alloc (.cells c1 t1)) _).block _ (by rw [World.size_alloc]; omega)).trans h
  · have h := heap_alloc_new (w.alloc (.cells c1 t1)) (.cells c2 t2)
    rw [World.size_alloc] at h
    exact h

set_option maxRecDepth 100000 in
set_option maxHeartbeats 4000000 in
theorem rSame_any (l l2 : List FI) (B B2 : Nat → Prop) (u u2 : Value) (w : World) (h : FragAt B w l u) (h2 : FragAt B2 w l2 u2) (hsm : SmallF l) : Calls Tryz.prog 31 #[u, u2] w fun e w' => e = .returned (.bool (sameF l l2)) ∧ Below w.heap.size w w' := by
  obtain ⟨a, c, rfl, hlc, hcm, hS⟩ := h
  obtain ⟨a2, c2, rfl, hlc2, hcm2, hS2⟩ := h2
  obtain ⟨n, hn⟩ : ∃ n, n = l.length := ⟨_, rfl⟩
  obtain ⟨n2, hn2⟩ : ∃ n, n = l2.length := ⟨_, rfl⟩
  have hn6 : n ≤ 100 := by rw [hn]; exact hsm.1
  rw [← hn, ← hn2]
  have HN := hide hn
  have HN2 := hide hn2
  have HE := hide hS
  have HE2 := hide hS2
  have HSM := hide hsm.2
  have HB0 := hide (Below.refl w.heap.size w)
  clear hn hn2 hlc hcm hS hlc2 hcm2 hS2 hsm
  by_cases hl : n = n2
  case neg =>
    have gl : (((n : Nat) : Int) == ((n2 : Nat) : Int)) = false := by rw [beq_eq_false_iff_ne]; omega
    have gl2 : (((n : Nat) : Int) != ((n2 : Nat) : Int)) = true := by rw [bne, gl]; rfl
    have gl3 : (n == n2) = false := beq_eq_false_iff_ne.2 hl
    have gl4 : (n != n2) = true := by rw [bne, gl3]; rfl
    have HD : Hid (sameF l l2 = false) := sameF_length (by rw [← unhide HN, ← unhide HN2]; exact hl)
    clear hl
    go_enter Tryz.func31, Tryz.ntmps31
    go_wp2_with fail
    go_ret
    exact ⟨ret_bool (unhide HD).symm, unhide HB0⟩
  have gl : (((n : Nat) : Int) == ((n2 : Nat) : Int)) = true := by rw [beq_iff_eq]; omega
  have gl2 : (((n : Nat) : Int) != ((n2 : Nat) : Int)) = false := by rw [bne, gl]; rfl
  have gl3 : (n == n2) = true := beq_iff_eq.2 hl
  have gl4 : (n != n2) = false := by rw [bne, gl3]; rfl
  have HLL := hide hl
  clear hl
  go_enter Tryz.func31, Tryz.ntmps31
  go_wp2_with fail
  clear gl gl2 gl3 gl4
  go_loopw [5] (fun k W => ∃ j : Nat, j ≤ n ∧ k = .int .i64 ((j : Nat) : Int) ∧ sameF (l.take j) (l2.take j) = true ∧ Below w.heap.size w W) (fun k _ => n - (intOf k).toNat)
  case atStart => exact ⟨0, by omega, rfl, rfl, unhide HB0⟩
  case round =>
    obtain ⟨j, hj, rfl, hkt, hb⟩ := hrel
    have HB := hide hb
    have HKT := hide hkt
    by_cases hlt : j < n
    · have hji : ((j : Nat) : Int) < ((n : Nat) : Int) := by omega
      have hjl : j < l.length := by have := unhide HN; omega
      have hjl2 : j < l2.length := by have := unhide HN2; have := unhide HLL; omega
      have hjn2 : j < n2 := by have := unhide HLL; omega
      have hji2 : ((j : Nat) : Int) < ((n2 : Nat) : Int) := by omega
      have hk : ∀ {p : Addr} {x : Value}, w.cell? p = some x → wr.cell? p = some x := fun hx => (hb.cell (World.block_lt_of_cell? _ _ hx)).trans hx
      obtain ⟨b, o, z, K, pa, pn, pc, zo, wd, qt, rfl, _, x0, x1, x2, x3, x4, x5, he⟩ := (unhide HE j hjl).out
      obtain ⟨b', o', z', K', pa', pn', pc', zo', wd', qt', rfl, _, y0, y1, y2, y3, y4, y5, he'⟩ := (unhide HE2 j hjl2).out
      have p0 := hk x0
      have p1 := hk x1
      have p2 := hk x2
      have p3 := hk x3
      have p4 := hk x4
      have p5 := hk x5
      have q0 := hk y0
      have q1 := hk y1
      have q2 := hk y2
      have q3 := hk y3
      have q4 := hk y4
      have q5 := hk y5
      have hp := (he.later hb).parts
      have hp2 := (he'.later hb).parts
      clear hk x0 x1 x2 x3 x4 x5 y0 y1 y2 y3 y4 y5 hkt hb
      go_upto_region 6 with fail
      go_cut [6, 7] (fun t6 t7 wx => ∃ g6 g7, t6 = .pointer (some ⟨g6, 0, none⟩) ∧ t7 = .pointer (some ⟨g7, 0, none⟩) ∧ wx.heap[g6]? = some (.cells #[.string z, .int .u8 ((K : Nat) : Int), .slice pa pn pc, .string zo, .int .i64 wd, .int .i64 qt] 62 (0, 0)) ∧ wx.heap[g7]? = some (.cells #[.string z', .int .u8 ((K' : Nat) : Int), .slice pa' pn' pc', .string zo', .int .i64 wd', .int .i64 qt'] 62 (0, 0)) ∧ Below wr.heap.size wr wx)
      case first =>
        have HKS : Hid (∀ X, Below wr.heap.size wr X → X.cell? ⟨b, o + j * 6, none⟩ = some (.string z) ∧ X.cell? ⟨b, o + j * 6 + 1, none⟩ = some (.int .u8 ((K : Nat) : Int)) ∧ X.cell? ⟨b, o + j * 6 + 2, none⟩ = some (.slice pa pn pc) ∧ X.cell? ⟨b, o + j * 6 + 3, none⟩ = some (.string zo) ∧ X.cell? ⟨b, o + j * 6 + 4, none⟩ = some (.int .i64 wd) ∧ X.cell? ⟨b, o + j * 6 + 5, none⟩ = some (.int .i64 qt) ∧ X.cell? ⟨b', o' + j * 6, none⟩ = some (.string z') ∧ X.cell? ⟨b', o' + j * 6 + 1, none⟩ = some (.int .u8 ((K' : Nat) : Int)) ∧ X.cell? ⟨b', o' + j * 6 + 2, none⟩ = some (.slice pa' pn' pc') ∧ X.cell? ⟨b', o' + j * 6 + 3, none⟩ = some (.string zo') ∧ X.cell? ⟨b', o' + j * 6 + 4, none⟩ = some (.int .i64 wd') ∧ X.cell? ⟨b', o' + j * 6 + 5, none⟩ = some (.int .i64 qt') ∧ Below wr.heap.size wr X) := fun X hX => ⟨(hX.cell (World.block_lt_of_cell? _ _ p0)).trans p0, (hX.cell (World.block_lt_of_cell? _ _ p1)).trans p1, (hX.cell (World.block_lt_of_cell? _ _ p2)).trans p2, (hX.cell (World.block_lt_of_cell? _ _ p3)).trans p3, (hX.cell (World.block_lt_of_cell? _ _ p4)).trans p4, (hX.cell (World.block_lt_of_cell? _ _ p5)).trans p5, (hX.cell (World.block_lt_of_cell? _ _ q0)).trans q0, (hX.cell (World.block_lt_of_cell? _ _ q1)).trans q1, (hX.cell (World.block_lt_of_cell? _ _ q2)).trans q2, (hX.cell (World.block_lt_of_cell? _ _ q3)).trans q3, (hX.cell (World.block_lt_of_cell? _ _ q4)).trans q4, (hX.cell (World.block_lt_of_cell? _ _ q5)).trans q5, hX⟩
        go_region_held3 (fun X => X.cell? ⟨b, o + j * 6, none⟩ = some (.string z) ∧ X.cell? ⟨b, o + j * 6 + 1, none⟩ = some (.int .u8 ((K : Nat) : Int)) ∧ X.cell? ⟨b, o + j * 6 + 2, none⟩ = some (.slice pa pn pc) ∧ X.cell? ⟨b, o + j * 6 + 3, none⟩ = some (.string zo) ∧ X.cell? ⟨b, o + j * 6 + 4, none⟩ = some (.int .i64 wd) ∧ X.cell? ⟨b, o + j * 6 + 5, none⟩ = some (.int .i64 qt) ∧ X.cell? ⟨b', o' + j * 6, none⟩ = some (.string z') ∧ X.cell? ⟨b', o' + j * 6 + 1, none⟩ = some (.int .u8 ((K' : Nat) : Int)) ∧ X.cell? ⟨b', o' + j * 6 + 2, none⟩ = some (.slice pa' pn' pc') ∧ X.cell? ⟨b', o' + j * 6 + 3, none⟩ = some (.string zo') ∧ X.cell? ⟨b', o' + j * 6 + 4, none⟩ = some (.int .i64 wd') ∧ X.cell? ⟨b', o' + j * 6 + 5, none⟩ = some (.int .i64 qt') ∧ Below wr.heap.size wr X)
          ((refine unhide HKS _ ?_; first | assumption | exact (Below.refl _ _).drew | exact ((Below.refl _ wr).alloc (Nat.le_refl _) _).drew | exact (((Below.refl _ wr).alloc (Nat.le_refl _) _).alloc (by rw [World.size_alloc]; omega) _).drew))
          (fail)
        all_goals (go_wp2_with fail; go_meet)
        · obtain ⟨r1, r2, r3⟩ := two_allocsF wr #[.string z, .int .u8 ((K : Nat) : Int), .slice pa pn pc, .string zo, .int .i64 wd, .int .i64 qt] #[.string z', .int .u8 ((K' : Nat) : Int), .slice pa' pn' pc', .string zo', .int .i64 wd', .int .i64 qt'] 62 62
          exact ⟨_, _, rfl, rfl, r1, r2, r3⟩
        · obtain ⟨r1, r2, r3⟩ := two_allocsF wr #[.string z', .int .u8 ((K' : Nat) : Int), .slice pa' pn' pc', .string zo', .int .i64 wd', .int .i64 qt'] #[.string z, .int .u8 ((K : Nat) : Int), .slice pa pn pc, .string zo, .int .i64 wd, .int .i64 qt] 62 62
          exact ⟨_, _, rfl, rfl, r2, r1, r3⟩
      obtain ⟨g6, g7, rfl, rfl, hg6, hg7, hbc⟩ := hcut
      have HBC := hide ((unhide HB).trans (hbc.mono (unhide HB).size))
      have HG6 := hide hg6
      have HG7 := hide hg7
      obtain ⟨i0, i1, i2, i3, i4, i5⟩ := cells6 hg6
      obtain ⟨k0, k1, k2, k3, k4, k5⟩ := cells6 hg7
      have HST : Hid (∀ X, Below wc.heap.size wc X → StrsAt B X pa l[j].after ∧ StrsAt B2 X pa' l2[j].after) := fun X hX =>
        have hb := hbc.trans (hX.mono hbc.size)
        ⟨hp.strs.kept (fun k _ hk => hb.block k hk) (fun _ h _ => h), hp2.strs.kept (fun k _ hk => hb.block k hk) (fun _ h _ => h)⟩
      have HTS := hide (sameF_take_succ hjl hjl2)
      have HFL := hide (sameF_at_false hjl hjl2)
      have HV : Hid ((l[j]).same (l2[j]) = (decide (l[j].name = l2[j].name) && (decide (K = K') && (decide (l[j].after = l2[j].after) && (decide (l[j].over = l2[j].over) && (decide (wd = wd') && decide (qt = qt'))))))) := by show _ = _; rw [FI.same_parts, hp.kd, hp2.kd, hp.wd, hp2.wd, hp.qt, hp2.qt]
      have hse := str_eq l[j].name l2[j].name
      have hso := str_eq l[j].over l2[j].over
      rw [← hp.nm, ← hp2.nm] at hse
      rw [← hp.ov, ← hp2.ov] at hso
      have HAN := hide hp.an
      have HAN2 := hide hp2.an
      have hpn : pn ≤ 40 := by rw [hp.an]; exact (unhide HSM _ (List.getElem_mem hjl)).2.2.1
      generalize (l[j]).same (l2[j]) = R at *
      obtain ⟨en, hen⟩ : ∃ e, e = decide (l[j].name = l2[j].name) := ⟨_, rfl⟩
      obtain ⟨eo, heo⟩ : ∃ e, e = decide (l[j].over = l2[j].over) := ⟨_, rfl⟩
      rw [← hen, ← heo] at HV
      rw [← hen] at hse
      rw [← heo] at hso
      generalize l[j].after = af at *
      generalize l2[j].after = af2 at *
      have hsen : (z.toList != z'.toList) = !en := by rw [bne, hse]
      have hson : (zo.toList != zo'.toList) = !eo := by rw [bne, hso]
      clear hp hp2 he he' hg6 hg7 hbc hen heo p0 p1 p2 p3 p4 p5 q0 q1 q2 q3 q4 q5
      cases en with
      | false =>
        have hsen : (z.toList != z'.toList) = true := hsen
        have HD : Hid (sameF l l2 = false) := unhide HFL (by rw [unhide HV]; simp)
        go_wp2_with fail
        go_ret
        exact ⟨ret_bool (unhide HD).symm, unhide HBC⟩
      | true =>
      have hsen : (z.toList != z'.toList) = false := hsen
      by_cases hk : K = K'
      case neg =>
        have gk : (((K : Nat) : Int) == ((K' : Nat) : Int)) = false := by rw [beq_eq_false_iff_ne]; omega
        have gk2 : (((K : Nat) : Int) != ((K' : Nat) : Int)) = true := by rw [bne, gk]; rfl
        have gk3 : (K == K') = false := beq_eq_false_iff_ne.2 hk
        have gk4 : (K != K') = true := by rw [bne, gk3]; rfl
        have HD : Hid (sameF l l2 = false) := unhide HFL (by rw [unhide HV, decide_eq_false hk]; simp)
        clear hk
        go_wp2_with fail
        go_ret
        exact ⟨ret_bool (unhide HD).symm, unhide HBC⟩
      have gk : (((K : Nat) : Int) == ((K' : Nat) : Int)) = true := by rw [beq_iff_eq]; omega
      have gk2 : (((K : Nat) : Int) != ((K' : Nat) : Int)) = false := by rw [bne, gk]; rfl
      have gk3 : (K == K') = true := beq_iff_eq.2 hk
      have gk4 : (K != K') = false := by rw [bne, gk3]; rfl
      have HKK := hide hk
      clear hk
      by_cases hm : pn = pn'
      case neg =>
        have gm : (((pn : Nat) : Int) == ((pn' : Nat) : Int)) = false := by rw [beq_eq_false_iff_ne]; omega
        have gm2 : (((pn : Nat) : Int) != ((pn' : Nat) : Int)) = true := by rw [bne, gm]; rfl
        have gm3 : (pn == pn') = false := beq_eq_false_iff_ne.2 hm
        have gm4 : (pn != pn') = true := by rw [bne, gm3]; rfl
        have HD : Hid (sameF l l2 = false) := unhide HFL (by
          have hne : af ≠ af2 := fun e => hm (by rw [unhide HAN, unhide HAN2, e])
          rw [unhide HV, decide_eq_false hne]; simp)
        clear hm
        go_wp2_with fail
        go_ret
        exact ⟨ret_bool (unhide HD).symm, unhide HBC⟩
      have gm : (((pn : Nat) : Int) == ((pn' : Nat) : Int)) = true := by rw [beq_iff_eq]; omega
      have gm2 : (((pn : Nat) : Int) != ((pn' : Nat) : Int)) = false := by rw [bne, gm]; rfl
      have gm3 : (pn == pn') = true := beq_iff_eq.2 hm
      have gm4 : (pn != pn') = false := by rw [bne, gm3]; rfl
      have HMM := hide hm
      clear hm
      cases eo with
      | false =>
        have hson : (zo.toList != zo'.toList) = true := hson
        have HD : Hid (sameF l l2 = false) := unhide HFL (by rw [unhide HV]; simp)
        go_wp2_with fail
        go_ret
        exact ⟨ret_bool (unhide HD).symm, unhide HBC⟩
      | true =>
      have hson : (zo.toList != zo'.toList) = false := hson
      by_cases hw : wd = wd'
      case neg =>
        have gw : (wd == wd') = false := beq_eq_false_iff_ne.2 hw
        have gw2 : (wd != wd') = true := by rw [bne, gw]; rfl
        have HD : Hid (sameF l l2 = false) := unhide HFL (by rw [unhide HV, decide_eq_false hw]; simp)
        clear hw
        go_wp2_with fail
        go_ret
        exact ⟨ret_bool (unhide HD).symm, unhide HBC⟩
      have gw : (wd == wd') = true := beq_iff_eq.2 hw
      have gw2 : (wd != wd') = false := by rw [bne, gw]; rfl
      have HWW := hide hw
      clear hw
      by_cases hq : qt = qt'
      case neg =>
        have gq : (qt == qt') = false := beq_eq_false_iff_ne.2 hq
        have gq2 : (qt != qt') = true := by rw [bne, gq]; rfl
        have HD : Hid (sameF l l2 = false) := unhide HFL (by rw [unhide HV, decide_eq_false hq]; simp)
        clear hq
        go_wp2_with fail
        go_ret
        exact ⟨ret_bool (unhide HD).symm, unhide HBC⟩
      have gq : (qt == qt') = true := beq_iff_eq.2 hq
      have gq2 : (qt != qt') = false := by rw [bne, gq]; rfl
      have HV2 : Hid (R = decide (af = af2)) := by show _ = _; rw [unhide HV, decide_eq_true (unhide HKK), decide_eq_true (unhide HWW), decide_eq_true hq]; simp
      clear hq HV
      go_wp2_with fail
      clear hse hso hsen hson gk gk2 gk3 gk4 gm gm2 gm3 gm4 gw gw2 gq gq2
      go_loopw [8] (fun k W => ∃ i : Nat, i ≤ pn ∧ k = .int .i64 ((i : Nat) : Int) ∧ af.take i = af2.take i ∧ Below wc.heap.size wc W) (fun k _ => pn - (intOf k).toNat)
      case atStart => exact ⟨0, by omega, rfl, by simp, Below.refl _ _⟩
      case round =>
        obtain ⟨i, hi, rfl, hit, hb⟩ := hrel
        have m2 := (hb.cell (World.block_lt_of_cell? _ _ i2)).trans i2
        have n2' := (hb.cell (World.block_lt_of_cell? _ _ k2)).trans k2
        have HBW := hide ((unhide HBC).trans (hb.mono (unhide HBC).size))
        have HBI := hide hb
        by_cases hil : i < pn
        · have hii : ((i : Nat) : Int) < ((pn : Nat) : Int) := by omega
          have hia : i < af.length := by have := unhide HAN; omega
          have hia2 : i < af2.length := by have := unhide HAN2; have := unhide HMM; omega
          have hin2 : i < pn' := by have := unhide HMM; omega
          have hii2 : ((i : Nat) : Int) < ((pn' : Nat) : Int) := by omega
          obtain ⟨s1, s2⟩ := unhide HST _ hb
          obtain ⟨b5, o5, rfl, _, x0, _⟩ := s1 i hia
          obtain ⟨b6, o6, rfl, _, y0, _⟩ := s2 i hia2
          have hse := str_eq af[i] af2[i]
          have HTS2 := hide (eqL_take_succ hia hia2 hit)
          have HTF2 := hide (eqL_false hia hia2)
          obtain ⟨q, hq⟩ : ∃ q, q = decide (af[i] = af2[i]) := ⟨_, rfl⟩
          rw [← hq] at hse
          have HQ := hide hq
          generalize (⟨af[i].toArray⟩ : ByteArray) = z1 at *
          generalize (⟨af2[i].toArray⟩ : ByteArray) = z2 at *
          have hsn : (z1.toList != z2.toList) = !q := by rw [bne, hse]
          clear hq s1 s2 hit hb
          cases q with
          | true =>
            have HT : Hid (af.take (i + 1) = af2.take (i + 1)) := unhide HTS2 (of_decide_eq_true (unhide HQ).symm)
            have hsn : (z1.toList != z2.toList) = false := hsn
            go_upto_region 12 with fail
            go_quiet (fail)
            go_wp2_with fail
            exact ⟨⟨i + 1, by omega, by go_num, unhide HT, (unhide HBI).trans ((below_drewN _ _).mono (unhide HBI).size)⟩, by simp [intOf]; omega⟩
          | false =>
            have HD : Hid (sameF l l2 = false) := unhide HFL (by rw [unhide HV2]; exact decide_eq_false (unhide HTF2 (of_decide_eq_false (unhide HQ).symm)))
            have hsn : (z1.toList != z2.toList) = true := hsn
            go_upto_region 12 with fail
            go_quiet (fail)
            go_wp2_with fail
            go_ret
            exact ⟨ret_bool (unhide HD).symm, (unhide HBW).trans ((below_drewN _ _).mono (unhide HBW).size)⟩
        · have e : i = pn := by omega
          have hii : ¬ ((i : Nat) : Int) < ((pn : Nat) : Int) := by omega
          have HR : Hid (R = true) := by
            show _ = _
            rw [unhide HV2]
            refine decide_eq_true ?_
            have h := hit
            rwa [List.take_of_length_le (by have := unhide HAN; omega), List.take_of_length_le (by have := unhide HAN2; have := unhide HMM; omega)] at h
          clear e hit hb hil
          go_wp2_with fail
          exact ⟨⟨j + 1, by omega, by go_num, by rw [unhide HTS, unhide HKT, unhide HR]; rfl, unhide HBW⟩, by simp [intOf]; omega⟩
    · have e : j = n := by omega
      have hji : ¬ ((j : Nat) : Int) < ((n : Nat) : Int) := by omega
      have HD : Hid (sameF l l2 = true) := by
        show _ = _
        rw [← unhide HKT, List.take_of_length_le (by have := unhide HN; omega), List.take_of_length_le (by have := unhide HN2; have := unhide HLL; omega)]
      clear e hkt hb
      go_wp2_with fail
      go_ret
      exact ⟨ret_bool (unhide HD).symm, unhide HB⟩
end Go.Proofs.YtdlbpbglidhlfaaGreatDoor

namespace Go.Proofs.YtdlbpbglidhlfaaGreatDoor
open Go.RowKit

set_option maxRecDepth 100000 in
set_option maxHeartbeats 2000000 in
theorem rID_any (s : List UInt8) (hs : s.length ≤ 1000000) (w : World) : Calls Tryz.prog 9 #[.string ⟨s.toArray⟩] w fun e w' => e = .returned (.bool (idB s)) ∧ w' = w := by
  have hsz := str_size s
  have HIX := hide (str_index s)
  obtain ⟨n, hn⟩ : ∃ n, n = s.length := ⟨_, rfl⟩
  rw [← hn] at hsz hs
  have HN := hide hn
  obtain ⟨z, hz⟩ : ∃ z : ByteArray, z = ⟨s.toArray⟩ := ⟨_, rfl⟩
  rw [← hz] at hsz ⊢
  have HZ := hide hz
  clear hn hz
  go_enter Tryz.func9, Tryz.ntmps9
  go_wp2
  go_loopw [3] (fun k W => ∃ j : Nat, j ≤ n ∧ k = .int .i64 ((j : Nat) : Int) ∧ (s.take j).all idCh = true ∧ W = w) (fun k _ => n - (intOf k).toNat)
  case atStart => exact ⟨0, by omega, rfl, rfl, rfl⟩
  case round =>
    obtain ⟨j, hj, rfl, ha, hw⟩ := hrel
    rw [hw]
    clear hw
    have HA := hide ha
    clear ha
    by_cases hlt : j < n
    · have hji : ((j : Nat) : Int) < ((n : Nat) : Int) := by omega
      have hjs : j < s.length := by have := unhide HN; omega
      have hix := unhide HIX j hjs
      rw [← unhide HZ] at hix
      have HTS := hide (all_take_succ (p := idCh) hjs)
      have HTF := hide (all_take_false (p := idCh) hjs)
      generalize s[j] = y at *
      have HNF : Hid (idCh y = false → idB s = false) := fun h => by unfold idB; rw [unhide HTF h, Bool.and_false]
      rcases idCh_cases y with ⟨h1, hc⟩ | ⟨h1, h2, hc⟩ | ⟨h1, h2, hc⟩
      · have HF := hide (unhide HNF hc)
        have p3 : ((y.toNat : Nat) : Int) < 33 := by omega
        clear h1 hc HNF HTF HTS
        generalize y.toNat = Y at *
        go_wp2_with fail
        go_ret
        exact ⟨ret_bool (unhide HF).symm, rfl⟩
      · have HF := hide (unhide HNF hc)
        have p3 : ¬ ((y.toNat : Nat) : Int) < 33 := by omega
        have p4 : ((y.toNat : Nat) : Int) > 126 := by omega
        clear h1 h2 hc HNF HTF HTS
        generalize y.toNat = Y at *
        go_wp2_with fail
        go_ret
        exact ⟨ret_bool (unhide HF).symm, rfl⟩
      · have HT : Hid ((s.take (j + 1)).all idCh = true) := by show _ = _; rw [unhide HTS, unhide HA, hc]; rfl
        have p3 : ¬ ((y.toNat : Nat) : Int) < 33 := by omega
        have p4 : ¬ ((y.toNat : Nat) : Int) > 126 := by omega
        clear h1 h2 hc HTS HTF HNF
        generalize y.toNat = Y at *
        go_wp2_with fail
        exact ⟨⟨j + 1, by omega, by go_num, unhide HT, trivial⟩, by simp [intOf]; omega⟩
    · have e : j = n := by omega
      have hji : ¬ ((j : Nat) : Int) < ((n : Nat) : Int) := by omega
      have HV : Hid (idB s = (decide (1 ≤ n) && decide (n ≤ 400))) := by
        show _ = _
        have h := unhide HA
        rw [List.take_of_length_le (by have := unhide HN; omega)] at h
        unfold idB
        rw [h, unhide HN, Bool.and_true]
      clear e
      by_cases h1 : 1 ≤ n
      · have p1 : ((n : Nat) : Int) ≥ 1 := by omega
        by_cases h2 : n ≤ 400
        · have p2 : ((n : Nat) : Int) ≤ 400 := by omega
          have HR : Hid (idB s = true) := by show _ = _; rw [unhide HV, decide_eq_true h1, decide_eq_true h2]; rfl
          clear h1 h2
          go_wp2_with fail
          go_ret
          exact ⟨ret_bool (unhide HR).symm, rfl⟩
        · have p2 : ¬ ((n : Nat) : Int) ≤ 400 := by omega
          have HR : Hid (idB s = false) := by show _ = _; rw [unhide HV, decide_eq_false h2, Bool.and_false]
          clear h1 h2
          go_wp2_with fail
          go_ret
          exact ⟨ret_bool (unhide HR).symm, rfl⟩
      · have p1 : ¬ ((n : Nat) : Int) ≥ 1 := by omega
        have HR : Hid (idB s = false) := by show _ = _; rw [unhide HV, decide_eq_false h1, Bool.false_and]
        clear h1
        go_wp2_with fail
        go_ret
        exact ⟨ret_bool (unhide HR).symm, rfl⟩

set_option maxHeartbeats 1000000 in
theorem rNone_any (v : VD) (B : Nat → Prop) (u : Value) (w : World) (h : v.At B w u) (hm : v.parts ≤ 1000000) : Calls Tryz.prog 21 #[u] w fun e w' => e = .returned (.bool (v.same zeroD)) ∧ Below w.heap.size w w' := by
  obtain ⟨K, m, c, N, z, a, rfl⟩ := h.form
  obtain ⟨W1, hW1⟩ : ∃ W1, W1 = w.alloc (.cells #[.int .u8 ((K : Nat) : Int), .int .i64 N, .string z, .slice a m c] 24) := ⟨_, rfl⟩
  have hb1 : Below w.heap.size w W1 := by rw [hW1]; exact (Below.refl _ _).alloc (Nat.le_refl _) _
  have hg1 : W1.heap[w.heap.size]? = some (.cells #[.int .u8 ((K : Nat) : Int), .int .i64 N, .string z, .slice a m c] 24 (0, 0)) := by rw [hW1]; exact heap_alloc_new _ _
  obtain ⟨⟨c0, c1, c2, c3⟩, -⟩ := cells4 hg1
  have HS := hide (vRefSame_any v zeroD B (fun _ => True) _ _ W1 (h.later hb1) (zero_at _ _) hm)
  have HB1 := hide hb1
  generalize v.same zeroD = r at *
  clear h hm hb1 hg1
  go_enter Tryz.func21, Tryz.ntmps21
  go_upto_region 1 with fail
  rw [← hW1]
  clear hW1
  go_wp2_with fail
  refine (unhide HS).mono ?_
  rintro e w2 ⟨rfl, hb2⟩
  have HB2 := hide ((unhide HB1).trans (hb2.mono (unhide HB1).size))
  clear hb2
  go_wp2_with fail
  go_ret
  exact ⟨rfl, unhide HB2⟩

set_option maxRecDepth 100000 in
set_option maxHeartbeats 4000000 in
theorem rOSame_any (o p : OD) (B B2 : Nat → Prop) (u u2 : Value) (w : World) (h : o.At B w u) (h2 : p.At B2 w u2) (hl : o.Lt) (hsm : SmallF o.frag) : Calls Tryz.prog 12 #[u, u2] w fun e w' => e = .returned (.bool (o.same p)) ∧ Below w.heap.size w w' := by
  obtain ⟨L, s, t, K, N, z, a, m, c, fa, fn, fc, q, rfl, hp⟩ := h.form
  obtain ⟨L', s', t', K', N', z', a', m', c', fa', fn', fc', q', rfl, hp'⟩ := h2.form
  unfold OD.form9
  obtain ⟨W1, hW1⟩ : ∃ W1, W1 = (w.alloc (.cells #[.int .u8 ((L : Nat) : Int), .string s, .int .i64 t, .int .u8 ((K : Nat) : Int), .int .i64 N, .string z, .slice a m c, .slice fa fn fc, .int .i64 q] 27)).alloc (.cells #[.int .u8 ((L' : Nat) : Int), .string s', .int .i64 t', .int .u8 ((K' : Nat) : Int), .int .i64 N', .string z', .slice a' m' c', .slice fa' fn' fc', .int .i64 q'] 27) := ⟨_, rfl⟩
  obtain ⟨hb1, hg1, hg2⟩ := alloc2_nine w #[.int .u8 ((L : Nat) : Int), .string s, .int .i64 t, .int .u8 ((K : Nat) : Int), .int .i64 N, .string z, .slice a m c, .slice fa fn fc, .int .i64 q] #[.int .u8 ((L' : Nat) : Int), .string s', .int .i64 t', .int .u8 ((K' : Nat) : Int), .int .i64 N', .string z', .slice a' m' c', .slice fa' fn' fc', .int .i64 q'] 27
  rw [← hW1] at hb1 hg1 hg2
  have HB1 := hide hb1
  have HVS : Hid (Calls Tryz.prog 30 #[.agg #[.int .u8 ((K : Nat) : Int), .int .i64 N, .string z, .slice a m c], .agg #[.int .u8 ((K' : Nat) : Int), .int .i64 N', .string z', .slice a' m' c']] W1 fun e w' => e = .returned (.bool (o.value.same p.value)) ∧ Below W1.heap.size W1 w') := vRefSame_any o.value p.value B B2 _ _ W1 (hp.later hb1).value (hp'.later hb1).value hl.1
  have HFS : Hid (∀ X, Below W1.heap.size W1 X → Calls Tryz.prog 31 #[.slice fa fn fc, .slice fa' fn' fc'] X fun e w' => e = .returned (.bool (sameF o.frag p.frag)) ∧ Below X.heap.size X w') := fun X hX => rSame_any o.frag p.frag B B2 _ _ X ((hp.later hb1).frag.later hX) ((hp'.later hb1).frag.later hX) hsm
  have hse := str_eq o.id p.id
  rw [← hp.id, ← hp'.id] at hse
  have hle : (((L : Nat) : Int) == ((L' : Nat) : Int)) = decide (o.what = p.what) := by rw [hp.wh, hp'.wh, Bool.eq_iff_iff, beq_iff_eq, decide_eq_true_eq]; omega
  have hte : (t == t') = decide (o.token = p.token) := by rw [hp.tk, hp'.tk, Bool.eq_iff_iff, beq_iff_eq, decide_eq_true_eq]
  have hqe : (q == q') = decide (o.quota = p.quota) := by rw [hp.qt, hp'.qt, Bool.eq_iff_iff, beq_iff_eq, decide_eq_true_eq]
  have HV := hide (OD.same_parts o p)
  obtain ⟨d0, d1, d2, d3, d4, d5, d6, d7, d8⟩ := cells9 hg1
  obtain ⟨k0, k1, k2, k3, k4, k5, k6, k7, k8⟩ := cells9 hg2
  generalize decide (o.what = p.what) = e0 at *
  generalize decide (o.id = p.id) = e1 at *
  generalize decide (o.token = p.token) = e2 at *
  generalize decide (o.quota = p.quota) = e3 at *
  generalize o.value.same p.value = e4 at *
  generalize sameF o.frag p.frag = e5 at *
  generalize o.same p = rr at *
  clear hp hp' hg1 hg2 hb1 h h2 hl hsm
  go_enter Tryz.func12, Tryz.ntmps12
  go_upto_region 1 with fail
  rw [← hW1]
  clear hW1
  cases e0 with
  | false =>
    have HE : Hid (rr = false) := by show _ = _; rw [unhide HV]; rfl
    go_wp2_with fail
    go_ret
    exact ⟨ret_bool (unhide HE).symm, unhide HB1⟩
  | true =>
  cases e1 with
  | false =>
    have HE : Hid (rr = false) := by show _ = _; rw [unhide HV]; rfl
    go_wp2_with fail
    go_ret
    exact ⟨ret_bool (unhide HE).symm, unhide HB1⟩
  | true =>
  cases e2 with
  | false =>
    have HE : Hid (rr = false) := by show _ = _; rw [unhide HV]; rfl
    go_wp2_with fail
    go_ret
    exact ⟨ret_bool (unhide HE).symm, unhide HB1⟩
  | true =>
  have HE : Hid (rr = (e3 && (e4 && e5))) := by show _ = _; rw [unhide HV]; simp
  go_wp2_with fail
  refine (unhide HVS).mono ?_
  rintro e w2 ⟨rfl, hb2⟩
  have HB2 := hide hb2
  have hk : ∀ {p : Addr} {x : Value}, W1.cell? p = some x → w2.cell? p = some x := fun hx => (hb2.cell (World.block_lt_of_cell? _ _ hx)).trans hx
  have d7' := hk d7
  have k7' := hk k7
  have d8' := hk d8
  have k8' := hk k8
  clear hb2 hk d0 d1 d2 d3 d4 d5 d6 d7 d8 k0 k1 k2 k3 k4 k5 k6 k7 k8
  cases e4 with
  | false =>
    have HE2 : Hid (rr = false) := by show _ = _; rw [unhide HE]; simp
    go_wp2_with fail
    go_ret
    exact ⟨ret_bool (unhide HE2).symm, (unhide HB1).trans ((unhide HB2).mono (unhide HB1).size)⟩
  | true =>
    go_wp2_with fail
    refine (unhide HFS _ (unhide HB2)).mono ?_
    rintro e w3 ⟨rfl, hb3⟩
    have HB3 := hide ((unhide HB2).trans (hb3.mono (unhide HB2).size))
    have hk : ∀ {p : Addr} {x : Value}, w2.cell? p = some x → w3.cell? p = some x := fun hx => (hb3.cell (World.block_lt_of_cell? _ _ hx)).trans hx
    have d8'' := hk d8'
    have k8'' := hk k8'
    clear hb3 hk d7' k7' d8' k8'
    cases e5 with
    | false =>
      have HE2 : Hid (rr = false) := by show _ = _; rw [unhide HE]; simp
      go_wp2_with fail
      go_ret
      exact ⟨ret_bool (unhide HE2).symm, (unhide HB1).trans ((unhide HB3).mono (unhide HB1).size)⟩
    | true =>
      have HE2 : Hid (rr = e3) := by show _ = _; rw [unhide HE]; simp
      go_wp2_with fail
      go_ret
      exact ⟨ret_bool (unhide HE2).symm, (unhide HB1).trans ((unhide HB3).mono (unhide HB1).size)⟩

set_option maxRecDepth 100000 in
set_option maxHeartbeats 8000000 in
theorem rORight_any (o : OD) (B : Nat → Prop) (u : Value) (w : World) (h : o.At B w u) (hl : o.Lt) (hsm : SmallF o.frag) (hid : o.id.length ≤ 1000000) : Calls Tryz.prog 6 #[u] w fun e w' => e = .returned (.bool o.right) ∧ Below w.heap.size w w' := by
  obtain ⟨L, s, t, K, N, z, a, m, c, fa, fn, fc, q, rfl, hp⟩ := h.form
  unfold OD.form9
  obtain ⟨W1, hW1⟩ : ∃ W1, W1 = w.alloc (.cells #[.int .u8 ((L : Nat) : Int), .string s, .int .i64 t, .int .u8 ((K : Nat) : Int), .int .i64 N, .string z, .slice a m c, .slice fa fn fc, .int .i64 q] 27) := ⟨_, rfl⟩
  have hb1 : Below w.heap.size w W1 := by rw [hW1]; exact (Below.refl _ _).alloc (Nat.le_refl _) _
  have hg1 : W1.heap[w.heap.size]? = some (.cells #[.int .u8 ((L : Nat) : Int), .string s, .int .i64 t, .int .u8 ((K : Nat) : Int), .int .i64 N, .string z, .slice a m c, .slice fa fn fc, .int .i64 q] 27 (0, 0)) := by rw [hW1]; exact heap_alloc_new _ _
  have HKS : Hid (∀ X, Below W1.heap.size W1 X → X.cell? ⟨w.heap.size, 0, none⟩ = some (.int .u8 ((L : Nat) : Int)) ∧ X.cell? ⟨w.heap.size, 1, none⟩ = some (.string s) ∧ X.cell? ⟨w.heap.size, 2, none⟩ = some (.int .i64 t) ∧ X.cell? ⟨w.heap.size, 3, none⟩ = some (.int .u8 ((K : Nat) : Int)) ∧ X.cell? ⟨w.heap.size, 4, none⟩ = some (.int .i64 N) ∧ X.cell? ⟨w.heap.size, 5, none⟩ = some (.string z) ∧ X.cell? ⟨w.heap.size, 6, none⟩ = some (.slice a m c) ∧ X.cell? ⟨w.heap.size, 7, none⟩ = some (.slice fa fn fc) ∧ X.cell? ⟨w.heap.size, 8, none⟩ = some (.int .i64 q)) := fun X hX => cells9 ((hX.block _ (Array.getElem?_eq_some_iff.1 hg1).1).trans hg1)
  have HID : Hid (∀ W, Calls Tryz.prog 9 #[.string s] W fun e w' => e = .returned (.bool (idB o.id)) ∧ w' = W) := fun W => by rw [hp.id]; exact rID_any o.id hid W
  have HVR : Hid (∀ X, Below W1.heap.size W1 X → Calls Tryz.prog 22 #[.agg #[.int .u8 ((K : Nat) : Int), .int .i64 N, .string z, .slice a m c]] X fun e w' => e = .returned (.bool o.value.right) ∧ Below X.heap.size X w') := fun X hX => vRefRight_any o.value B _ X ((hp.later hb1).value.later hX) hl.1
  have HVN : Hid (∀ X, Below W1.heap.size W1 X → Calls Tryz.prog 21 #[.agg #[.int .u8 ((K : Nat) : Int), .int .i64 N, .string z, .slice a m c]] X fun e w' => e = .returned (.bool o.isZ) ∧ Below X.heap.size X w') := fun X hX => rNone_any o.value B _ X ((hp.later hb1).value.later hX) hl.1
  have HFR : Hid (∀ X, Below W1.heap.size W1 X → Calls Tryz.prog 20 #[.slice fa fn fc] X fun e w' => e = .returned (.bool (rightF o.frag)) ∧ Below X.heap.size X w') := fun X hX => rRight_any o.frag B _ X ((hp.later hb1).frag.later hX) hsm
  have hse : s.toList.isEmpty = !(!o.id.isEmpty) := by rw [hp.id, str_empty, Bool.not_not]
  have htz : (t == 0) = !(decide (o.token ≠ 0)) := by rw [hp.tk, Bool.eq_iff_iff, beq_iff_eq]; simp
  have hqz : (q == 0) = !(decide (o.quota ≠ 0)) := by rw [hp.qt, Bool.eq_iff_iff, beq_iff_eq]; simp
  have hqn : (q != 0) = decide (o.quota ≠ 0) := by rw [hp.qt, Bool.eq_iff_iff, bne_iff_ne, decide_eq_true_eq]
  have ht1 : decide (t ≥ 1) = decide (1 ≤ o.token) := by rw [hp.tk]
  have hfl : fn = o.frag.length := by obtain ⟨a, c, e, _⟩ := hp.frag; cases e; rfl
  have hf0 : (((fn : Nat) : Int) == 0) = !(!o.frag.isEmpty) := by rw [hfl, Bool.eq_iff_iff, beq_iff_eq]; cases o.frag <;> simp <;> omega
  have hf0n : (fn == 0) = !(!o.frag.isEmpty) := by rw [hfl, Bool.eq_iff_iff, beq_iff_eq]; cases o.frag <;> simp
  have hq04 : (decide (0 ≤ o.quota) && decide (o.quota ≤ 400)) = (decide (q ≥ 0) && decide (q ≤ 400)) := by rw [hp.qt]
  have HV : Hid (o.right = OD.form L (idB o.id) (decide (1 ≤ o.token)) o.value.right (rightF o.frag) (decide (q ≥ 0) && decide (q ≤ 400)) (!o.id.isEmpty) (decide (o.token ≠ 0)) (!o.isZ) (!o.frag.isEmpty) (decide (o.quota ≠ 0))) := by
    show _ = _
    unfold OD.right
    rw [hq04, hp.wh]
  generalize idB o.id = b0 at *
  generalize decide (1 ≤ o.token) = b1 at *
  generalize o.value.right = b2 at *
  generalize rightF o.frag = b3 at *
  generalize (!o.id.isEmpty) = s0 at *
  generalize decide (o.token ≠ 0) = s1 at *
  obtain ⟨s2, hs2⟩ : ∃ s2, s2 = o.isZ := ⟨_, rfl⟩
  rw [← hs2] at HVN HV
  generalize (!o.frag.isEmpty) = s3 at *
  generalize decide (o.quota ≠ 0) = s4 at *
  obtain ⟨g4, hg4⟩ : ∃ g4, g4 = decide (q ≥ 0) := ⟨_, rfl⟩
  obtain ⟨l4, hl4⟩ : ∃ l4, l4 = decide (q ≤ 400) := ⟨_, rfl⟩
  rw [← hg4, ← hl4] at HV
  replace hg4 := hg4.symm
  replace hl4 := hl4.symm
  generalize o.right = rr at *
  have HLL : Hid (L < 256) := by show _ < _; rw [hp.wh]; exact hp.fits.wh
  obtain ⟨d0, d1, d2, d3, d4, d5, d6, d7, d8⟩ := cells9 hg1
  have HB1 := hide hb1
  clear hp hg1 hb1 h hl hsm hid hs2 hfl hq04
  go_enter Tryz.func6, Tryz.ntmps6
  go_upto_region 1 with fail
  rw [← hW1]
  clear hW1
  have hc : L = 0 ∨ 5 < L ∨ L = 1 ∨ (L = 2 ∨ L = 5) ∨ L = 3 ∨ L = 4 := by omega
  rcases hc with hL | hL | hL | hL | hL | hL
  · have p1 : decide (((L : Nat) : Int) < 1) = true := by exact decide_eq_true (by omega)
    have HE : Hid (rr = false) := by show _ = _; rw [unhide HV, hL]; rfl
    clear hL
    go_wp2_with fail
    go_ret
    exact ⟨ret_bool (unhide HE).symm, (unhide HB1).trans ((Below.refl _ _).mono (unhide HB1).size)⟩
  · have p1 : decide (((L : Nat) : Int) < 1) = false := by exact decide_eq_false (by omega)
    have p5 : decide (((L : Nat) : Int) > 5) = true := by exact decide_eq_true (by omega)
    have HE : Hid (rr = false) := by show _ = _; rw [unhide HV]; unfold OD.form; split <;> first | rfl | omega
    clear hL
    go_wp2_with fail
    go_ret
    exact ⟨ret_bool (unhide HE).symm, (unhide HB1).trans ((Below.refl _ _).mono (unhide HB1).size)⟩
  · have p1 : decide (((L : Nat) : Int) < 1) = false := by exact decide_eq_false (by omega)
    have p5 : decide (((L : Nat) : Int) > 5) = false := by exact decide_eq_false (by omega)
    have e1 : (((L : Nat) : Int) == 1) = true := by rw [beq_iff_eq]; omega
    have HE0 : Hid (rr = (b3 && (g4 && l4) && !s0 && !s1 && !(!s2))) := by show _ = _; rw [unhide HV, hL]; rfl
    clear hL
    go_wp2_with fail
    refine (unhide HFR _ (Below.refl _ _)).mono ?_
    rintro e w2 ⟨rfl, hb2⟩
    have HB2 := hide hb2
    clear d0 d1 d2 d3 d4 d5 d6 d7 d8
    obtain ⟨d0, d1, d2, d3, d4, d5, d6, d7, d8⟩ := unhide HKS _ hb2
    clear hb2
    cases b3 with
    | false =>
      have HE : Hid (rr = false) := by show _ = _; rw [unhide HE0]; simp
      go_wp2_with fail
      go_ret
      exact ⟨ret_bool (unhide HE).symm, (unhide HB1).trans ((unhide HB2).mono (unhide HB1).size)⟩
    | true =>
      cases g4 with
      | false =>
        have HE : Hid (rr = false) := by show _ = _; rw [unhide HE0]; simp
        go_wp2_with fail
        go_ret
        exact ⟨ret_bool (unhide HE).symm, (unhide HB1).trans ((unhide HB2).mono (unhide HB1).size)⟩
      | true =>
        cases l4 with
        | false =>
          have HE : Hid (rr = false) := by show _ = _; rw [unhide HE0]; simp
          go_wp2_with fail
          go_ret
          exact ⟨ret_bool (unhide HE).symm, (unhide HB1).trans ((unhide HB2).mono (unhide HB1).size)⟩
        | true =>
          cases s0 with
          | true =>
            have HE : Hid (rr = false) := by show _ = _; rw [unhide HE0]; simp
            go_wp2_with fail
            go_ret
            exact ⟨ret_bool (unhide HE).symm, (unhide HB1).trans ((unhide HB2).mono (unhide HB1).size)⟩
          | false =>
            cases s1 with
            | true =>
              have HE : Hid (rr = false) := by show _ = _; rw [unhide HE0]; simp
              go_wp2_with fail
              go_ret
              exact ⟨ret_bool (unhide HE).symm, (unhide HB1).trans ((unhide HB2).mono (unhide HB1).size)⟩
            | false =>
              go_wp2_with fail
              refine (unhide HVN _ (unhide HB2)).mono ?_
              rintro e w3 ⟨rfl, hb3⟩
              have HB3 := hide ((unhide HB2).trans (hb3.mono (unhide HB2).size))
              clear hb3
              have HE : Hid (rr = s2) := by show _ = _; rw [unhide HE0]; simp
              go_wp2_with fail
              go_ret
              exact ⟨ret_bool (unhide HE).symm, (unhide HB1).trans ((unhide HB3).mono (unhide HB1).size)⟩
  · have p1 : decide (((L : Nat) : Int) < 1) = false := by exact decide_eq_false (by omega)
    have p5 : decide (((L : Nat) : Int) > 5) = false := by exact decide_eq_false (by omega)
    have e1 : (((L : Nat) : Int) == 1) = false := by rw [beq_eq_false_iff_ne]; omega
    have e3 : (((L : Nat) : Int) == 3) = false := by rw [beq_eq_false_iff_ne]; omega
    have e4 : (((L : Nat) : Int) == 4) = false := by rw [beq_eq_false_iff_ne]; omega
    have HE0 : Hid (rr = (b0 && !s1 && !(!s2) && !s3 && !s4)) := by show _ = _; rw [unhide HV]; rcases hL with h | h <;> (rw [h]; rfl)
    clear hL
    go_wp2_with fail
    refine (unhide HID _).mono ?_
    rintro e w2 ⟨rfl, hw⟩
    rw [hw]
    clear hw w2
    cases b0 with
    | false =>
      have HE : Hid (rr = false) := by show _ = _; rw [unhide HE0]; simp
      go_wp2_with fail
      go_ret
      exact ⟨ret_bool (unhide HE).symm, (unhide HB1).trans ((Below.refl _ _).mono (unhide HB1).size)⟩
    | true =>
      cases s4 with
      | true =>
        have HE : Hid (rr = false) := by show _ = _; rw [unhide HE0]; simp
        go_wp2_with fail
        go_ret
        exact ⟨ret_bool (unhide HE).symm, (unhide HB1).trans ((Below.refl _ _).mono (unhide HB1).size)⟩
      | false =>
        cases s1 with
        | true =>
          have HE : Hid (rr = false) := by show _ = _; rw [unhide HE0]; simp
          go_wp2_with fail
          go_ret
          exact ⟨ret_bool (unhide HE).symm, (unhide HB1).trans ((Below.refl _ _).mono (unhide HB1).size)⟩
        | false =>
          go_wp2_with fail
          refine (unhide HVN _ (Below.refl _ _)).mono ?_
          rintro e w3 ⟨rfl, hb3⟩
          have HB3 := hide hb3
          clear d0 d1 d2 d3 d4 d5 d6 d7 d8
          obtain ⟨d0, d1, d2, d3, d4, d5, d6, d7, d8⟩ := unhide HKS _ hb3
          clear hb3
          cases s2 with
          | false =>
            have HE : Hid (rr = false) := by show _ = _; rw [unhide HE0]; simp
            go_wp2_with fail
            go_ret
            exact ⟨ret_bool (unhide HE).symm, (unhide HB1).trans ((unhide HB3).mono (unhide HB1).size)⟩
          | true =>
            have HE : Hid (rr = !s3) := by show _ = _; rw [unhide HE0]; simp
            go_wp2_with fail
            go_ret
            exact ⟨ret_bool (unhide HE).symm, (unhide HB1).trans ((unhide HB3).mono (unhide HB1).size)⟩
  · have p1 : decide (((L : Nat) : Int) < 1) = false := by exact decide_eq_false (by omega)
    have p5 : decide (((L : Nat) : Int) > 5) = false := by exact decide_eq_false (by omega)
    have e1 : (((L : Nat) : Int) == 1) = false := by rw [beq_eq_false_iff_ne]; omega
    have e3 : (((L : Nat) : Int) == 3) = true := by rw [beq_iff_eq]; omega
    have HE0 : Hid (rr = (b0 && b1 && b2 && b3 && !s4)) := by show _ = _; rw [unhide HV, hL]; rfl
    clear hL
    go_wp2_with fail
    refine (unhide HID _).mono ?_
    rintro e w2 ⟨rfl, hw⟩
    rw [hw]
    clear hw w2
    cases b0 with
    | false =>
      have HE : Hid (rr = false) := by show _ = _; rw [unhide HE0]; simp
      go_wp2_with fail
      go_ret
      exact ⟨ret_bool (unhide HE).symm, (unhide HB1).trans ((Below.refl _ _).mono (unhide HB1).size)⟩
    | true =>
      cases s4 with
      | true =>
        have HE : Hid (rr = false) := by show _ = _; rw [unhide HE0]; simp
        go_wp2_with fail
        go_ret
        exact ⟨ret_bool (unhide HE).symm, (unhide HB1).trans ((Below.refl _ _).mono (unhide HB1).size)⟩
      | false =>
        cases b1 with
        | false =>
          have HE : Hid (rr = false) := by show _ = _; rw [unhide HE0]; simp
          go_wp2_with fail
          go_ret
          exact ⟨ret_bool (unhide HE).symm, (unhide HB1).trans ((Below.refl _ _).mono (unhide HB1).size)⟩
        | true =>
          go_wp2_with fail
          refine (unhide HVR _ (Below.refl _ _)).mono ?_
          rintro e w3 ⟨rfl, hb3⟩
          have HB3 := hide hb3
          clear d0 d1 d2 d3 d4 d5 d6 d7 d8
          obtain ⟨d0, d1, d2, d3, d4, d5, d6, d7, d8⟩ := unhide HKS _ hb3
          clear hb3
          cases b2 with
          | false =>
            have HE : Hid (rr = false) := by show _ = _; rw [unhide HE0]; simp
            go_wp2_with fail
            go_ret
            exact ⟨ret_bool (unhide HE).symm, (unhide HB1).trans ((unhide HB3).mono (unhide HB1).size)⟩
          | true =>
            go_wp2_with fail
            refine (unhide HFR _ (unhide HB3)).mono ?_
            rintro e w4 ⟨rfl, hb4⟩
            have HB4 := hide ((unhide HB3).trans (hb4.mono (unhide HB3).size))
            clear hb4
            have HE : Hid (rr = b3) := by show _ = _; rw [unhide HE0]; simp
            go_wp2_with fail
            go_ret
            exact ⟨ret_bool (unhide HE).symm, (unhide HB1).trans ((unhide HB4).mono (unhide HB1).size)⟩
  · have p1 : decide (((L : Nat) : Int) < 1) = false := by exact decide_eq_false (by omega)
    have p5 : decide (((L : Nat) : Int) > 5) = false := by exact decide_eq_false (by omega)
    have e1 : (((L : Nat) : Int) == 1) = false := by rw [beq_eq_false_iff_ne]; omega
    have e3 : (((L : Nat) : Int) == 3) = false := by rw [beq_eq_false_iff_ne]; omega
    have e4 : (((L : Nat) : Int) == 4) = true := by rw [beq_iff_eq]; omega
    have HE0 : Hid (rr = (b0 && b1 && !(!s2) && !s3 && !s4)) := by show _ = _; rw [unhide HV, hL]; rfl
    clear hL
    go_wp2_with fail
    refine (unhide HID _).mono ?_
    rintro e w2 ⟨rfl, hw⟩
    rw [hw]
    clear hw w2
    cases b0 with
    | false =>
      have HE : Hid (rr = false) := by show _ = _; rw [unhide HE0]; simp
      go_wp2_with fail
      go_ret
      exact ⟨ret_bool (unhide HE).symm, (unhide HB1).trans ((Below.refl _ _).mono (unhide HB1).size)⟩
    | true =>
      cases s4 with
      | true =>
        have HE : Hid (rr = false) := by show _ = _; rw [unhide HE0]; simp
        go_wp2_with fail
        go_ret
        exact ⟨ret_bool (unhide HE).symm, (unhide HB1).trans ((Below.refl _ _).mono (unhide HB1).size)⟩
      | false =>
        cases b1 with
        | false =>
          have HE : Hid (rr = false) := by show _ = _; rw [unhide HE0]; simp
          go_wp2_with fail
          go_ret
          exact ⟨ret_bool (unhide HE).symm, (unhide HB1).trans ((Below.refl _ _).mono (unhide HB1).size)⟩
        | true =>
          go_wp2_with fail
          refine (unhide HVN _ (Below.refl _ _)).mono ?_
          rintro e w3 ⟨rfl, hb3⟩
          have HB3 := hide hb3
          clear d0 d1 d2 d3 d4 d5 d6 d7 d8
          obtain ⟨d0, d1, d2, d3, d4, d5, d6, d7, d8⟩ := unhide HKS _ hb3
          clear hb3
          cases s2 with
          | false =>
            have HE : Hid (rr = false) := by show _ = _; rw [unhide HE0]; simp
            go_wp2_with fail
            go_ret
            exact ⟨ret_bool (unhide HE).symm, (unhide HB1).trans ((unhide HB3).mono (unhide HB1).size)⟩
          | true =>
            have HE : Hid (rr = !s3) := by show _ = _; rw [unhide HE0]; simp
            go_wp2_with fail
            go_ret
            exact ⟨ret_bool (unhide HE).symm, (unhide HB1).trans ((unhide HB3).mono (unhide HB1).size)⟩
end Go.Proofs.YtdlbpbglidhlfaaGreatDoor
