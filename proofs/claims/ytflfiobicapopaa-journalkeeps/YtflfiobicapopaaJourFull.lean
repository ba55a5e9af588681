/- JournalFull, walked. -/
import Derived.Test.YtflfiobicapopaaJourLaw2
namespace Go.Proofs.Ytflfiobicapopaa
open Go.RowKit

theorem over_s {h : HeadD} (hs : h.s + 1 < 18446744073709551616) : h.over.next.s = h.s + 1 := Nat.mod_eq_of_lt hs
theorem bputErr_or {rows : List (List UInt8)} (hbad : bputErr rows ≠ 0) : bputErr rows = 34 ∨ bputErr rows = 31 := by
  unfold bputErr at hbad ⊢
  split
  · exact .inl rfl
  · split
    · rename_i h1 h2; rw [if_neg h1, if_pos h2] at hbad; exact (hbad rfl).elim
    · exact .inr rfl

set_option maxRecDepth 100000 in
set_option maxHeartbeats 16000000 in
theorem journalFull_any (x0 : Nat) (ua : Option Addr) (n uc : Nat) (ks : Nat → BlowD) (w : World) (h0 : x0 ≤ 65535) (h : BlowsAt w ua n ks) :
    Calls Try.prog 5 #[.int .u16 ((x0 : Nat) : Int), .slice ua n uc] w fun x w' => x = .returned (.bool true) ∧ Below w.heap.size w w' := by
  have HX := hide h
  clear h
  obtain ⟨all, hall⟩ : ∃ all : Nat, all = x0 % 401 := ⟨_, rfl⟩
  have hallI : ((x0 : Nat) : Int) % 401 = ((all : Nat) : Int) := by rw [hall]; push_cast; rfl
  have hal : all ≤ 400 := by omega
  clear hall
  go_enter Try.func5, Try.ntmps5
  go_upto_region 2 with fail
  go_wp2_with fail
  rw [hallI]
  clear hallI
  refine (made_any (Below.refl _ w) ((all : Nat) : Int) (by omega) (by omega)).mono ?_
  rintro x W1 ⟨p, g, A0, rfl, hJ, hc, hp⟩
  have HJ0 := hide hJ
  have HC0 := hide hc
  have HP0 := hide hp
  clear hJ hc hp
  by_cases hn20 : n ≤ 20
  · have hn20' : ¬ (n : Int) > 20 := by omega
    go_wp2_with fail
    go_loopw [39] (fun i W => ∃ j : Nat, j ≤ n ∧ i = .int .i64 j ∧ ∃ A h l, Jr w W [] [] g p A h l ∧ A.calls = -1 ∧ A.cap = ((all : Nat) : Int) ∧ (bputs l).length ≤ all ∧ h.s ≤ 2 + j) (fun i _ => n - (intOf i).toNat)
    case atStart => exact ⟨0, by omega, rfl, A0, _, _, unhide HJ0, unhide HC0, unhide HP0, Nat.zero_le _, Nat.le_refl _⟩
    case round =>
      obtain ⟨j, hj, rfl, A, h, l, hJ, hc, hp, hb, hs⟩ := hrel
      have HJ := hide hJ
      have HC := hide hc
      have HP := hide hp
      have HBL := hide hb
      have HS := hide hs
      clear hJ hc hp hb hs HJ0 HC0 HP0
      by_cases hlt : j < n
      · obtain ⟨b, o, rfl, hxx⟩ := unhide HX (by omega)
        obtain ⟨hcell, hfit⟩ := hxx j hlt
        obtain ⟨⟨sa, sn, sc, rows, turn, crash, at', part, k0, k1, k2, k3, again, o0, o1, o2, o3⟩, hh⟩ : ∃ h, ks j = h := ⟨_, rfl⟩
        rw [hh] at hcell hfit
        obtain ⟨z0, z1, z2, z3, z4, z5, z6, z7, z8, z9, za, zb, zc, zd⟩ := blow_cells hcell (unhide HJ).kj.bb
        dsimp only at z0 z1 z2 z3 z4 z5 z6 z7 z8 z9 za zb zc zd
        have HR := hide hfit.1
        have HN := hide hfit.2.1
        have HM := hide hfit.2.2.1
        dsimp only at HR HN HM
        have i0 : (0 : Int) ≤ (j : Int) := by omega
        have i1 : (j : Int) < (n : Int) := by omega
        clear hcell hfit hh hxx
        have HJ1 := hide ((unhide HJ).new (.cells #[.slice sa sn sc, .bool turn, .bool crash, .int .u8 ((at' : Nat) : Int), .int .u8 ((part : Nat) : Int), .int .i64 k0, .int .i64 k1, .int .i64 k2, .int .i64 k3, .int .u8 ((again : Nat) : Int), .int .i64 o0, .int .i64 o1, .int .i64 o2, .int .i64 o3] 26))
        go_upto_region 8 with fail
        generalize wr.alloc (.cells #[.slice sa sn sc, .bool turn, .bool crash, .int .u8 ((at' : Nat) : Int), .int .u8 ((part : Nat) : Int), .int .i64 k0, .int .i64 k1, .int .i64 k2, .int .i64 k3, .int .u8 ((again : Nat) : Int), .int .i64 o0, .int .i64 o1, .int .i64 o2, .int .i64 o3] 26) = W2 at HJ1 ⊢
        generalize wr.heap.size = gb at HJ1 ⊢
        clear z0 z1 z2 z3 z4 z5 z6 z7 z8 z9 za zb zc zd HJ
        have BL : Hid (∀ W L A h l, Jr w W L [(gb, Obj.cells #[.slice sa sn sc, .bool turn, .bool crash, .int .u8 ((at' : Nat) : Int), .int .u8 ((part : Nat) : Int), .int .i64 k0, .int .i64 k1, .int .i64 k2, .int .i64 k3, .int .u8 ((again : Nat) : Int), .int .i64 o0, .int .i64 o1, .int .i64 o2, .int .i64 o3] 26 (0, 0))] g p A h l → W.cell? ⟨gb, 0, none⟩ = some (.slice sa sn sc) ∧ W.cell? ⟨gb, 1, none⟩ = some (.bool turn)) := fun W L A h l H => H.blow (x := ⟨sa, sn, sc, rows, turn, crash, at', part, k0, k1, k2, k3, again, o0, o1, o2, o3⟩)
        obtain ⟨c0, c1⟩ := unhide BL _ _ _ _ _ (unhide HJ1)
        go_wp2_with fail
        refine (low_bytesW _ rows _ ((unhide HJ1).rowsB (unhide HR)) (by rw [unhide HN]; exact unhide HM)).mono ?_
        rintro x W3 ⟨rfl, rfl⟩
        generalize wrap64 ((total rows : Nat) : Int) = tb
        by_cases ht : tb > 1000
        · go_wp2_with fail
          refine (jawake_any _).mono ?_
          rintro x W4 ⟨rfl, hb⟩
          have HB := hide ((unhide HJ1).kj.bb.trans (hb.mono (unhide HJ1).kj.bb.size))
          clear hb
          go_wp2_with fail
          go_ret
          exact ⟨rfl, unhide HB⟩
        have ht' : decide (tb > 1000) = false := decide_eq_false ht
        clear ht
        by_cases hs : sn > 50
        · have hs2 : decide ((sn : Int) > 50) = true := decide_eq_true (by omega)
          clear hs
          go_wp2_with fail
          refine (jawake_any _).mono ?_
          rintro x W4 ⟨rfl, hb⟩
          have HB := hide ((unhide HJ1).kj.bb.trans (hb.mono (unhide HJ1).kj.bb.size))
          clear hb
          go_wp2_with fail
          go_ret
          exact ⟨rfl, unhide HB⟩
        have hs2 : decide ((sn : Int) > 50) = false := decide_eq_false (by omega)
        clear hs
        go_upto_region 10 with fail
        clear hs2 ht'
        go_wp2_with fail
        refine (kjLong (unhide HJ1).kj _ rows ((unhide HJ1).rowsB (unhide HR))).mono ?_
        rintro x W4 ⟨rfl, hk⟩
        have HJ4 := hide (Jr.mk hk (unhide HJ1).run)
        clear hk HJ1 c0 c1
        go_wp2_with fail
        refine (jrFree (unhide HJ4)).mono ?_
        rintro x W5 ⟨rfl, rfl⟩
        rw [unhide HP]
        go_wp2_with fail
        refine (jrSize (unhide HJ4)).mono ?_
        rintro x W6 ⟨rfl, hJ⟩
        have HJ6 := hide hJ
        have hfl := head_field2
        have hl2 := (unhide HJ6).l2
        clear hJ HJ4
        go_wp2_with fail
        refine (jrHead (unhide HJ6)).mono ?_
        rintro x W7 ⟨rfl, hJ⟩
        have HJ7 := hide hJ
        clear hJ HJ6
        go_wp2_with fail
        refine (jrRead (unhide HJ7)).mono ?_
        rintro x W8 ⟨ra, rc, rfl, hJ⟩
        have HJ8 := hide hJ
        clear hJ HJ7
        go_wp2_with fail
        refine (jrAnew (unhide HJ8) _ _ _ (bputs l) (List.mem_cons_self ..) (by have := unhide HBL; omega)).mono ?_
        rintro x W9 ⟨va, vc, rfl, hJ⟩
        have HJ9 := hide (show Jr w W9 [(.slice va (bputs l).length vc, Thing.bytes (bputs l))] _ g p A h l from hJ.lessL fun q hq => by rw [List.mem_singleton.1 hq]; exact List.mem_cons_self ..)
        obtain ⟨c0, c1⟩ := unhide BL _ _ _ _ _ (unhide HJ9)
        clear hJ HJ8
        obtain ⟨S, hS⟩ : ∃ S, (bputs l).length = S := ⟨_, rfl⟩
        have HSS := hide hS
        rw [hS] at HBL HJ9 ⊢
        clear hS
        have hSa : S ≤ all := unhide HBL
        have hfs : IntKind.i64.wrap (((all : Nat) : Int) - (S : Int) + (S : Int)) = ((all : Nat) : Int) := by rw [IntKind.wrap_i64]; omega
        obtain ⟨R, hR0⟩ : ∃ R, (bputOf rows).length = R := ⟨_, rfl⟩
        have HR0 := hide hR0
        rw [hR0]
        clear hR0
        go_upto_region 16 with fail
        cases turn
        -- ROUND
        case false =>
          go_wp2_with fail
          by_cases hbad : bputErr rows = 0
          · have ok := bputErr_zero.1 hbad
            have HRR : Hid ((bput rows).length = R) := by show _ = _; rw [← unhide HR0, show bputOf rows = bput rows from if_pos hbad]
            rw [hbad]
            by_cases hf : (R : Int) > ((all : Nat) : Int) - (S : Int)
            · have hd : decide ((R : Int) > ((all : Nat) : Int) - (S : Int)) = true := decide_eq_true hf
              refine (jrAppend_full (unhide HJ9) _ rows ((unhide HJ9).rowsB (unhide HR)) ok (by rw [unhide HP, unhide HSS, unhide HRR]; omega)).mono ?_
              rintro x W10 ⟨rfl, hJ⟩
              clear hf
              have HJ10 := hide hJ
              clear hJ HJ9 c0 c1
              go_wp2_with fail
              refine (jrSize (unhide HJ10)).mono ?_
              rintro x W11 ⟨rfl, hJ⟩
              rw [unhide HSS]
              have HJ11 := hide hJ
              clear hJ HJ10
              go_wp2_with fail
              refine (jrFree (unhide HJ11)).mono ?_
              rintro x W12 ⟨rfl, rfl⟩
              rw [unhide HSS, unhide HP]
              go_wp2_with fail
              refine (jrHead (unhide HJ11)).mono ?_
              rintro x W13 ⟨rfl, hJ⟩
              have HJ13 := hide hJ
              clear hJ HJ11
              go_wp2_with fail
              refine (jrRead (unhide HJ13)).mono ?_
              rintro x W14 ⟨rb, rd, rfl, hJ⟩
              rw [unhide HSS] at hJ ⊢
              have HJ14 := hide hJ
              clear hJ HJ13
              go_wp2_with fail
              refine (low_same _ _ (bputs l) (bputs l) _ ((unhide HJ14).kj.byt (List.mem_cons_of_mem _ (List.mem_cons_self ..))) ((unhide HJ14).kj.byt (List.mem_cons_self ..))).mono ?_
              rintro x W15 ⟨rfl, rfl⟩
              rw [decide_eq_true (rfl : bputs l = bputs l)]
              go_wp2_with fail
              exact ⟨⟨j + 1, by omega, by go_num, A, h, l, (unhide HJ14).noM.noL, unhide HC, unhide HP, by rw [unhide HSS]; exact unhide HBL, by have := unhide HS; omega⟩, by simp [intOf]; omega⟩
            · have hd : decide ((R : Int) > ((all : Nat) : Int) - (S : Int)) = false := decide_eq_false hf
              refine (jrAppend_fit (unhide HJ9) (unhide HC) _ rows ((unhide HJ9).rowsB (unhide HR)) ok (by rw [unhide HP, unhide HSS, unhide HRR]; omega)).mono ?_
              rintro x W10 ⟨B, rfl, hcap, hcalls, hJ⟩
              have HJ10 := hide hJ
              have HC10 := hide hcalls
              have HP10 := hide (hcap.trans (unhide HP))
              have HSI : Hid ((((bputs (l ++ [rows])).length : Nat) : Int) = (S : Int) + (R : Int)) := by show _ = _; rw [bputs_snoc, List.length_append, unhide HSS, unhide HRR, Int.natCast_add]
              have HB10 : Hid ((bputs (l ++ [rows])).length ≤ all) := by show _ ≤ _; have := unhide HSI; omega
              have hw1 : IntKind.i64.wrap ((S : Int) + (R : Int)) = (S : Int) + (R : Int) := by rw [IntKind.wrap_i64]; omega
              have hw2 : IntKind.i64.wrap (((all : Nat) : Int) - (S : Int) - (R : Int)) = ((all : Nat) : Int) - (S : Int) - (R : Int) := by rw [IntKind.wrap_i64]; omega
              clear hJ hcap hcalls HJ9 c0 c1
              obtain ⟨c0, c1⟩ := unhide BL _ _ _ _ _ (unhide HJ10)
              go_wp2_with fail
              refine (jrSize (unhide HJ10)).mono ?_
              rintro x W11 ⟨rfl, hJ⟩
              rw [unhide HSI]
              have HJ11 := hide hJ
              clear hJ HJ10 c0 c1
              go_wp2_with fail
              refine (jrFree (unhide HJ11)).mono ?_
              rintro x W12 ⟨rfl, rfl⟩
              rw [unhide HSI, unhide HP10, show ((all : Nat) : Int) - ((S : Int) + (R : Int)) = ((all : Nat) : Int) - (S : Int) - (R : Int) by omega]
              go_wp2_with fail
              exact ⟨⟨j + 1, by omega, by go_num, B, h, _, (unhide HJ11).noM.noL, unhide HC10, unhide HP10, unhide HB10, by have := unhide HS; omega⟩, by simp [intOf]; omega⟩
          · have hor : bputErr rows = 34 ∨ bputErr rows = 31 := bputErr_or hbad
            refine (jrAppend_bad (unhide HJ9) _ rows ((unhide HJ9).rowsB (unhide HR)) hbad).mono ?_
            rintro x W10 ⟨rfl, hJ⟩
            clear hbad
            rcases hor with e | e
            all_goals
              rw [e]
              clear e
              have HJ10 := hide hJ
              clear hJ HJ9 c0 c1
              go_wp2_with fail
              refine (jrSize (unhide HJ10)).mono ?_
              rintro x W11 ⟨rfl, hJ⟩
              rw [unhide HSS]
              have HJ11 := hide hJ
              clear hJ HJ10
              go_wp2_with fail
              refine (jrFree (unhide HJ11)).mono ?_
              rintro x W12 ⟨rfl, rfl⟩
              rw [unhide HSS, unhide HP]
              go_wp2_with fail
              refine (jrHead (unhide HJ11)).mono ?_
              rintro x W13 ⟨rfl, hJ⟩
              have HJ13 := hide hJ
              clear hJ HJ11
              go_wp2_with fail
              refine (jrRead (unhide HJ13)).mono ?_
              rintro x W14 ⟨rb, rd, rfl, hJ⟩
              rw [unhide HSS] at hJ ⊢
              have HJ14 := hide hJ
              clear hJ HJ13
              go_wp2_with fail
              refine (low_same _ _ (bputs l) (bputs l) _ ((unhide HJ14).kj.byt (List.mem_cons_of_mem _ (List.mem_cons_self ..))) ((unhide HJ14).kj.byt (List.mem_cons_self ..))).mono ?_
              rintro x W15 ⟨rfl, rfl⟩
              rw [decide_eq_true (rfl : bputs l = bputs l)]
              go_wp2_with fail
              exact ⟨⟨j + 1, by omega, by go_num, A, h, l, (unhide HJ14).noM.noL, unhide HC, unhide HP, by rw [unhide HSS]; exact unhide HBL, by have := unhide HS; omega⟩, by simp [intOf]; omega⟩
        case true =>
          go_wp2_with fail
          by_cases hbad : bputErr rows = 0
          · have ok := bputErr_zero.1 hbad
            have HRR : Hid ((bput rows).length = R) := by show _ = _; rw [← unhide HR0, show bputOf rows = bput rows from if_pos hbad]
            rw [hbad]
            by_cases hf : (R : Int) > ((all : Nat) : Int) - (S : Int)
            · have hd : decide ((R : Int) > ((all : Nat) : Int) - (S : Int)) = true := decide_eq_true hf
              refine (jrSwitch_full (unhide HJ9) (by have := unhide HS; omega) _ rows ((unhide HJ9).rowsB (unhide HR)) ok (by rw [unhide HP, unhide HSS, unhide HRR]; omega)).mono ?_
              rintro x W10 ⟨rfl, hJ⟩
              clear hf
              have HJ10 := hide hJ
              clear hJ HJ9 c0 c1
              go_wp2_with fail
              refine (jrSize (unhide HJ10)).mono ?_
              rintro x W11 ⟨rfl, hJ⟩
              rw [unhide HSS]
              have HJ11 := hide hJ
              clear hJ HJ10
              go_wp2_with fail
              refine (jrFree (unhide HJ11)).mono ?_
              rintro x W12 ⟨rfl, rfl⟩
              rw [unhide HSS, unhide HP]
              go_wp2_with fail
              refine (jrHead (unhide HJ11)).mono ?_
              rintro x W13 ⟨rfl, hJ⟩
              have HJ13 := hide hJ
              clear hJ HJ11
              go_wp2_with fail
              refine (jrRead (unhide HJ13)).mono ?_
              rintro x W14 ⟨rb, rd, rfl, hJ⟩
              rw [unhide HSS] at hJ ⊢
              have HJ14 := hide hJ
              clear hJ HJ13
              go_wp2_with fail
              refine (low_same _ _ (bputs l) (bputs l) _ ((unhide HJ14).kj.byt (List.mem_cons_of_mem _ (List.mem_cons_self ..))) ((unhide HJ14).kj.byt (List.mem_cons_self ..))).mono ?_
              rintro x W15 ⟨rfl, rfl⟩
              rw [decide_eq_true (rfl : bputs l = bputs l)]
              go_wp2_with fail
              exact ⟨⟨j + 1, by omega, by go_num, A, h, l, (unhide HJ14).noM.noL, unhide HC, unhide HP, by rw [unhide HSS]; exact unhide HBL, by have := unhide HS; omega⟩, by simp [intOf]; omega⟩
            · have hd : decide ((R : Int) > ((all : Nat) : Int) - (S : Int)) = false := decide_eq_false hf
              refine (jrSwitch_fit (unhide HJ9) (by have := unhide HS; omega) (unhide HC) _ rows ((unhide HJ9).rowsB (unhide HR)) ok (by rw [unhide HP, unhide HSS, unhide HRR]; omega)).mono ?_
              rintro x W10 ⟨B, rfl, hcap, hcalls, hJ⟩
              have HJ10 := hide hJ
              have HC10 := hide hcalls
              have HP10 := hide (hcap.trans (unhide HP))
              have HSI : Hid ((((bputs [rows]).length : Nat) : Int) = (R : Int)) := by show _ = _; rw [bputs_one, unhide HRR]
              have HB10 : Hid ((bputs [rows]).length ≤ all) := by show _ ≤ _; have := unhide HSI; omega
              have hw1 : IntKind.i64.wrap ((R : Int)) = (R : Int) := by rw [IntKind.wrap_i64]; omega
              have hw2 : IntKind.i64.wrap (((all : Nat) : Int) - (R : Int)) = ((all : Nat) : Int) - (R : Int) := by rw [IntKind.wrap_i64]; omega
              clear hJ hcap hcalls HJ9 c0 c1
              obtain ⟨c0, c1⟩ := unhide BL _ _ _ _ _ (unhide HJ10)
              go_wp2_with fail
              refine (jrSize (unhide HJ10)).mono ?_
              rintro x W11 ⟨rfl, hJ⟩
              rw [unhide HSI]
              have HJ11 := hide hJ
              clear hJ HJ10 c0 c1
              go_wp2_with fail
              refine (jrFree (unhide HJ11)).mono ?_
              rintro x W12 ⟨rfl, rfl⟩
              rw [unhide HSI, unhide HP10, show ((all : Nat) : Int) - ((R : Int)) = ((all : Nat) : Int) - (R : Int) by omega]
              go_wp2_with fail
              exact ⟨⟨j + 1, by omega, by go_num, B, h.over.next, _, (unhide HJ11).noM.noL, unhide HC10, unhide HP10, unhide HB10, by have := unhide HS; rw [over_s (by omega)]; omega⟩, by simp [intOf]; omega⟩
          · have hor : bputErr rows = 34 ∨ bputErr rows = 31 := bputErr_or hbad
            refine (jrSwitch_bad (unhide HJ9) (by have := unhide HS; omega) _ rows ((unhide HJ9).rowsB (unhide HR)) hbad).mono ?_
            rintro x W10 ⟨rfl, hJ⟩
            clear hbad
            rcases hor with e | e
            all_goals
              rw [e]
              clear e
              have HJ10 := hide hJ
              clear hJ HJ9 c0 c1
              go_wp2_with fail
              refine (jrSize (unhide HJ10)).mono ?_
              rintro x W11 ⟨rfl, hJ⟩
              rw [unhide HSS]
              have HJ11 := hide hJ
              clear hJ HJ10
              go_wp2_with fail
              refine (jrFree (unhide HJ11)).mono ?_
              rintro x W12 ⟨rfl, rfl⟩
              rw [unhide HSS, unhide HP]
              go_wp2_with fail
              refine (jrHead (unhide HJ11)).mono ?_
              rintro x W13 ⟨rfl, hJ⟩
              have HJ13 := hide hJ
              clear hJ HJ11
              go_wp2_with fail
              refine (jrRead (unhide HJ13)).mono ?_
              rintro x W14 ⟨rb, rd, rfl, hJ⟩
              rw [unhide HSS] at hJ ⊢
              have HJ14 := hide hJ
              clear hJ HJ13
              go_wp2_with fail
              refine (low_same _ _ (bputs l) (bputs l) _ ((unhide HJ14).kj.byt (List.mem_cons_of_mem _ (List.mem_cons_self ..))) ((unhide HJ14).kj.byt (List.mem_cons_self ..))).mono ?_
              rintro x W15 ⟨rfl, rfl⟩
              rw [decide_eq_true (rfl : bputs l = bputs l)]
              go_wp2_with fail
              exact ⟨⟨j + 1, by omega, by go_num, A, h, l, (unhide HJ14).noM.noL, unhide HC, unhide HP, by rw [unhide HSS]; exact unhide HBL, by have := unhide HS; omega⟩, by simp [intOf]; omega⟩
        -- ROUND END
      · have en : n = j := by omega
        subst en
        go_wp2_with fail
        refine (jawake_any _).mono ?_
        rintro x W4 ⟨rfl, hb⟩
        have HB := hide ((unhide HJ).kj.bb.trans (hb.mono (unhide HJ).kj.bb.size))
        clear hb
        go_wp2_with fail
        go_ret
        exact ⟨rfl, unhide HB⟩
  · have hn20' : (n : Int) > 20 := by omega
    go_wp2_with fail
    refine (jawake_any _).mono ?_
    rintro x W4 ⟨rfl, hb⟩
    have HB := hide ((unhide HJ0).kj.bb.trans (hb.mono (unhide HJ0).kj.bb.size))
    clear hb
    go_wp2_with fail
    go_ret
    exact ⟨rfl, unhide HB⟩
end Go.Proofs.Ytflfiobicapopaa
