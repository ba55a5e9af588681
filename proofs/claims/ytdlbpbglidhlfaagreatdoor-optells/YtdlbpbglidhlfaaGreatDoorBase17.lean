/- FragRefB, OpRefB, ValRefJ: our own definitions and contracts; no statement of the seat is proved here. -/
import Derived.Test.YtdlbpbglidhlfaaGreatDoorBase15
import Derived.Test.YtdlbpbglidhlfaaGreatDoorBase13
import Derived.Test.YtdlbpbglidhlfaaGreatDoorBase05
import Derived.Test.YtdlbpbglidhlfaaGreatDoorBase16
import Derived.Test.YtdlbpbglidhlfaaGreatDoorBase14
import Derived.Test.YtdlbpbglidhlfaaGreatDoorBase06
namespace Go.Proofs.YtdlbpbglidhlfaaGreatDoor
open Go.RowKit

theorem Sb.later {w0 W W' : World} {g : Nat} {row : Array Value} {r : Value} {bs : List UInt8} (h : Sb w0 g row r bs W) (hb : Below W.heap.size W W') : Sb w0 g row r bs W' :=
  ⟨h.own.later hb, (hb.block _ (Array.getElem?_eq_some_iff.1 h.box).1).trans h.box, h.ne⟩
theorem Sb.grown {w0 W W' : World} {g : Nat} {row : Array Value} {r r' : Value} {bs cs : List UInt8} (h : Sb w0 g row r bs W) (r1 : W'.ownsRow 0 5 1 r' cs.length (cs.map bv)) (r2 : W.grownBy W' r.ownBlock) (r3 : r'.ownBlock = r.ownBlock ∨ ∃ k, r'.ownBlock = some k ∧ W.heap.size ≤ k) : Sb w0 g row r' cs W' :=
  h.put (h.own.grown r1 r2 r3) (GR.of r2 r3)

set_option maxRecDepth 100000 in
set_option maxHeartbeats 4000000 in
theorem rBytes_any (l : List FI) (B : Nat → Prop) (u : Value) (w : World) (h : FragAt B w l u) (hR : rightF l = true) : Calls Tryz.prog 33 #[u] w fun e w' => ∃ r, e = .returned r ∧ Own w r (bytesF l) w' := by
  obtain ⟨ti, hti, hz0, hz1, hz2⟩ := infoByte
  have hbl := bytesF_le hR
  have hR2 := hR
  unfold rightF at hR2
  simp only [Bool.and_eq_true, decide_eq_true_eq] at hR2
  obtain ⟨hl40, hall⟩ := hR2
  have HR := hide (List.all_eq_true.1 hall)
  obtain ⟨a, c, rfl, hlc, hcm, hS⟩ := h
  obtain ⟨n, hn⟩ : ∃ n, n = l.length := ⟨_, rfl⟩
  rw [← hn]
  have hn6 : n ≤ 40 := by omega
  have HN := hide hn
  have HS := hide hS
  have HL : Hid (∀ j, (numB ((n : Nat) : Int) ++ (l.take j).flatMap FI.bytes).length ≤ 31000) := fun j => by
    have h1 := flat_take_le FI.bytes l j
    unfold bytesF at hbl
    rw [List.length_append] at hbl
    rw [List.length_append, hn]
    omega
  have HCS : Hid (bytesF l = numB ((n : Nat) : Int) ++ (l.take n).flatMap FI.bytes) := by show _ = _; unfold bytesF; rw [hn, List.take_length]
  have HNU := hide (wRefNum_any ((n : Nat) : Int) (by unfold InR; omega) w)
  clear hn hS hlc hcm hbl hR hl40 hall
  go_enter Tryz.func33, Tryz.ntmps33
  go_wp2_with fail
  refine (unhide HNU).mono ?_
  rintro e w2 ⟨r2, rfl, hO2⟩
  have HO2 := hide hO2
  clear hO2
  go_wp2_with fail
  go_loopw [3, 4] (fun v k W => ∃ j : Nat, j ≤ n ∧ k = .int .i64 ((j : Nat) : Int) ∧ Own w v (numB ((n : Nat) : Int) ++ (l.take j).flatMap FI.bytes) W) (fun _ k _ => n - (intOf k).toNat)
  case atStart => exact ⟨0, by omega, rfl, by simpa using unhide HO2⟩
  case round =>
    obtain ⟨j, hj, rfl, hO3⟩ := hrel
    by_cases hlt : j < n
    · have hji : ((j : Nat) : Int) < ((n : Nat) : Int) := by omega
      have hjl : j < l.length := by have := unhide HN; omega
      obtain ⟨b, o, z, K, pa, pn, pc, zo, wd, qt, rfl, _, c0, c1, c2', c3', c4, c5, hx⟩ := (unhide HS j hjl).out
      have hk : ∀ {p : Addr} {x : Value}, w.cell? p = some x → wr.cell? p = some x := fun hx => (hO3.bb.cell (World.block_lt_of_cell? _ _ hx)).trans hx
      have d0 := hk c0
      have d1 := hk c1
      have d2 := hk c2'
      have d3 := hk c3'
      have d4 := hk c4
      have d5 := hk c5
      obtain ⟨W4, hW4⟩ : ∃ W4, W4 = wr.alloc (.cells #[.string z, .int .u8 ((K : Nat) : Int), .slice pa pn pc, .string zo, .int .i64 wd, .int .i64 qt] 62) := ⟨_, rfl⟩
      have hb4 : Below wr.heap.size wr W4 := by rw [hW4]; exact (Below.refl _ _).alloc (Nat.le_refl _) _
      have hr4 : W4.heap[wr.heap.size]? = some (.cells #[.string z, .int .u8 ((K : Nat) : Int), .slice pa pn pc, .string zo, .int .i64 wd, .int .i64 qt] 62 (0, 0)) := by rw [hW4]; exact heap_alloc_new wr _
      obtain ⟨P0, hP0⟩ : ∃ P, P = numB ((n : Nat) : Int) ++ (l.take j).flatMap FI.bytes := ⟨_, rfl⟩
      have hP0l : P0.length ≤ 31000 := by rw [hP0]; exact unhide HL j
      rw [← hP0] at hO3
      have HS4 : Hid (Sb w wr.heap.size #[.string z, .int .u8 ((K : Nat) : Int), .slice pa pn pc, .string zo, .int .i64 wd, .int .i64 qt] u3 P0 W4) := ⟨hO3.later hb4, hr4, fun e => by have := (hO3.own.lt _ e).2; omega⟩
      have HTS : Hid (numB ((n : Nat) : Int) ++ (l.take (j + 1)).flatMap FI.bytes = P0 ++ (l[j]).bytes) := by show _ = _; rw [hP0, flat_take_succ FI.bytes hjl, List.append_assoc]
      have hp := hx.parts
      have hxr := unhide HR _ (List.getElem_mem hjl)
      have hxs := FI.right_small hxr
      have hxl := FI.bytes_le hxr
      generalize l[j] = x at *
      have HNM : Hid (∀ W, Calls Tryz.prog 34 #[.string z] W fun e w' => ∃ r, e = .returned r ∧ Own W r (textB x.name) w') := fun W => by rw [hp.nm]; exact wRefText_any x.name (by have := hxs.1; omega) W
      have HNK : Hid (∀ W, Calls Tryz.prog 32 #[.int .i64 ((K : Nat) : Int)] W fun e w' => ∃ r, e = .returned r ∧ Own W r (numB ((K : Nat) : Int)) w') := fun W => wRefNum_any _ (by have := hp.fits.kb; rw [hp.kd]; unfold InR; omega) W
      have HNA : Hid (∀ W, Calls Tryz.prog 32 #[.int .i64 ((pn : Nat) : Int)] W fun e w' => ∃ r, e = .returned r ∧ Own W r (numB ((pn : Nat) : Int)) w') := fun W => wRefNum_any _ (by have := hxs.2.2.1; rw [hp.an]; unfold InR; omega) W
      have HNQ : Hid (∀ W, Calls Tryz.prog 32 #[.int .i64 qt] W fun e w' => ∃ r, e = .returned r ∧ Own W r (numB qt) w') := fun W => wRefNum_any _ (by rw [hp.qt]; exact hp.fits.qt) W
      have HNO : Hid (∀ W, Calls Tryz.prog 34 #[.string zo] W fun e w' => ∃ r, e = .returned r ∧ Own W r (textB x.over) w') := fun W => by rw [hp.ov]; exact wRefText_any x.over (by have := hxs.2.1; omega) W
      have HNW : Hid (∀ W, Calls Tryz.prog 32 #[.int .i64 wd] W fun e w' => ∃ r, e = .returned r ∧ Own W r (numB wd) w') := fun W => wRefNum_any _ (by rw [hp.wd]; exact hp.fits.wd) W
      have HAF : Hid (∀ i (hi : i < x.after.length) W, Calls Tryz.prog 34 #[.string ⟨(x.after[i]'hi).toArray⟩] W fun e w' => ∃ r, e = .returned r ∧ Own W r (textB (x.after[i]'hi)) w') := fun i hi W => wRefText_any _ (by have := hxs.2.2.2 _ (List.getElem_mem hi); omega) W
      have HST : Hid (∀ X, Below w.heap.size w X → StrsAt B X pa x.after) := fun X hX => hp.strs.kept (fun k _ hk => hX.block k hk) (fun _ h _ => h)
      have HAN := hide hp.an
      have hpn : pn ≤ 40 := by rw [hp.an]; exact hxs.2.2.1
      have hKb : K < 256 := by rw [hp.kd]; exact hp.fits.kb
      have HBY : Hid (P0 ++ x.bytes = P0 ++ textB x.name ++ numB ((K : Nat) : Int) ++ numB ((pn : Nat) : Int) ++ x.after.flatMap textB ++ numB qt ++ (if K = 1 then textB x.over ++ numB wd else [])) := by show _ = _; rw [hp.kd, hp.an, hp.qt, hp.wd]; unfold FI.bytes FI.tail; simp only [List.append_assoc]
      have HLN : Hid (P0.length + (textB x.name).length + (numB ((K : Nat) : Int)).length + (numB ((pn : Nat) : Int)).length + (x.after.flatMap textB).length + (numB qt).length ≤ 40000) := by
        show _ ≤ _
        have h1 := hxl
        unfold FI.bytes at h1
        simp only [List.length_append] at h1
        rw [hp.kd, hp.an, hp.qt]
        omega
      have HLO : Hid ((textB x.over).length + (numB wd).length ≤ 1000) := by
        show _ ≤ _
        have h1 := textB_le hxs.2.1 (by omega)
        have h2 := numB_ten (n := wd) (by rw [hp.wd]; exact hp.fits.wd)
        omega
      have HFL := hide (flat_take_le textB x.after)
      have HFS := hide (fun i (hi : i < x.after.length) => flat_take_succ textB hi)
      obtain ⟨P1, hP1⟩ : ∃ P, P = P0 ++ textB x.name := ⟨_, rfl⟩
      obtain ⟨P2, hP2⟩ : ∃ P, P = P1 ++ numB ((K : Nat) : Int) := ⟨_, rfl⟩
      obtain ⟨P3, hP3⟩ : ∃ P, P = P2 ++ numB ((pn : Nat) : Int) := ⟨_, rfl⟩
      rw [← hP1, ← hP2, ← hP3] at HBY
      have HP3l : Hid (P1.length = P0.length + (textB x.name).length ∧ P2.length = P1.length + (numB ((K : Nat) : Int)).length ∧ P3.length = P2.length + (numB ((pn : Nat) : Int)).length) := ⟨by rw [hP1, List.length_append], by rw [hP2, List.length_append], by rw [hP3, List.length_append]⟩
      have HP1 := hide hP1
      have HP2 := hide hP2
      have HP3 := hide hP3
      have HW4 := hide hW4
      obtain ⟨e0, e1, e2, e3, e4, e5⟩ := (unhide HS4).cells
      clear c0 c1 c2' c3' c4 c5 hx hk hO3 hb4 hr4 hP0 hp hxr hxs hxl hP1 hP2 hP3 hW4
      go_upto_region 6 with fail
      rw [← unhide HW4]
      clear HW4 d0 d1 d2 d3 d4 d5
      go_wp2_with fail
      refine (unhide HNM _).mono ?_
      rintro e w5 ⟨r5, rfl, hO5⟩
      have HS5 := hide ((unhide HS4).later hO5.bb)
      have HB5 := hide hO5.fresh.1.1
      clear hO5 e0 e1 e2 e3 e4 e5 HS4
      go_wp2_with (at_builtin; refine wpList_append_bytes _ rfl _ _ 28 rfl 5 ti (.int .u8 0) Tryz.underlying28 hti hz0 hz1 hz2 rfl _ P0 rfl (unhide HS5).own.own _ (textB x.name) rfl (unhide HB5) (by have := unhide HLN; omega) ?_)
      rintro v6 w6 r1 r2 r3
      have HS6 : Hid (Sb w wr.heap.size #[.string z, .int .u8 ((K : Nat) : Int), .slice pa pn pc, .string zo, .int .i64 wd, .int .i64 qt] v6 P1 w6) := (unhide HS5).grown (by rw [unhide HP1]; simpa using r1) r2 r3
      clear r1 r2 r3 HS5 HB5
      obtain ⟨e0, e1, e2, e3, e4, e5⟩ := (unhide HS6).cells
      go_wp2_with fail
      refine (unhide HNK _).mono ?_
      rintro e w7 ⟨r7, rfl, hO7⟩
      have HS7 := hide ((unhide HS6).later hO7.bb)
      have HB7 := hide hO7.fresh.1.1
      clear hO7 e0 e1 e2 e3 e4 e5 HS6
      go_wp2_with (at_builtin; refine wpList_append_bytes _ rfl _ _ 28 rfl 5 ti (.int .u8 0) Tryz.underlying28 hti hz0 hz1 hz2 rfl _ P1 rfl (unhide HS7).own.own _ (numB ((K : Nat) : Int)) rfl (unhide HB7) (by have := unhide HLN; have := unhide HP3l; omega) ?_)
      rintro v8 w8 r1 r2 r3
      have HS8 : Hid (Sb w wr.heap.size #[.string z, .int .u8 ((K : Nat) : Int), .slice pa pn pc, .string zo, .int .i64 wd, .int .i64 qt] v8 P2 w8) := (unhide HS7).grown (by rw [unhide HP2]; simpa using r1) r2 r3
      clear r1 r2 r3 HS7 HB7
      obtain ⟨e0, e1, e2, e3, e4, e5⟩ := (unhide HS8).cells
      go_wp2_with fail
      refine (unhide HNA _).mono ?_
      rintro e w9 ⟨r9, rfl, hO9⟩
      have HS9 := hide ((unhide HS8).later hO9.bb)
      have HB9 := hide hO9.fresh.1.1
      clear hO9 e0 e1 e2 e3 e4 e5 HS8
      go_wp2_with (at_builtin; refine wpList_append_bytes _ rfl _ _ 28 rfl 5 ti (.int .u8 0) Tryz.underlying28 hti hz0 hz1 hz2 rfl _ P2 rfl (unhide HS9).own.own _ (numB ((pn : Nat) : Int)) rfl (unhide HB9) (by have := unhide HLN; have := unhide HP3l; omega) ?_)
      rintro v10 w10 r1 r2 r3
      have HS10 : Hid (Sb w wr.heap.size #[.string z, .int .u8 ((K : Nat) : Int), .slice pa pn pc, .string zo, .int .i64 wd, .int .i64 qt] v10 P3 w10) := (unhide HS9).grown (by rw [unhide HP3]; simpa using r1) r2 r3
      clear r1 r2 r3 HS9 HB9
      go_wp2_with fail
      go_loopw [3, 6] (fun v k W => ∃ i : Nat, i ≤ pn ∧ k = .int .i64 ((i : Nat) : Int) ∧ Sb w wr.heap.size #[.string z, .int .u8 ((K : Nat) : Int), .slice pa pn pc, .string zo, .int .i64 wd, .int .i64 qt] v (P3 ++ (x.after.take i).flatMap textB) W) (fun _ k _ => pn - (intOf k).toNat)
      case atStart => exact ⟨0, by omega, rfl, by simpa using unhide HS10⟩
      case round =>
        obtain ⟨i, hi, rfl, hS11⟩ := hrel
        have HS11 := hide hS11
        obtain ⟨e0, e1, e2, e3, e4, e5⟩ := hS11.cells
        have HT1 := hide (unhide HST _ hS11.own.bb)
        clear hS11
        by_cases hil : i < pn
        · have hii : ((i : Nat) : Int) < ((pn : Nat) : Int) := by omega
          have hia : i < x.after.length := by have := unhide HAN; omega
          obtain ⟨b5, o5, rfl, _, x0, _⟩ := unhide HT1 i hia
          have HC := hide (unhide HAF i hia)
          have HF1 : Hid (P3 ++ (x.after.take (i + 1)).flatMap textB = (P3 ++ (x.after.take i).flatMap textB) ++ textB x.after[i]) := by show _ = _; rw [unhide HFS i hia, List.append_assoc]
          have HF2 : Hid ((P3 ++ (x.after.take i).flatMap textB).length + (textB x.after[i]).length ≤ 41000) := by
            show _ ≤ _
            have h1 := unhide HFL (i + 1)
            rw [unhide HFS i hia, List.length_append] at h1
            have := unhide HLN
            have := unhide HP3l
            rw [List.length_append]
            omega
          generalize (⟨x.after[i].toArray⟩ : ByteArray) = zz at *
          generalize textB x.after[i] = sb at *
          go_wp2_with fail
          refine (unhide HC _).mono ?_
          rintro e w12 ⟨r12, rfl, hO12⟩
          have HS12 := hide ((unhide HS11).later hO12.bb)
          have HB12 := hide hO12.fresh.1.1
          clear hO12 e0 e1 e2 e3 e4 e5 HS11 x0
          go_wp2_with (at_builtin; refine wpList_append_bytes _ rfl _ _ 28 rfl 5 ti (.int .u8 0) Tryz.underlying28 hti hz0 hz1 hz2 rfl _ (P3 ++ (x.after.take i).flatMap textB) rfl (unhide HS12).own.own _ sb rfl (unhide HB12) (by have := unhide HF2; omega) ?_)
          rintro v13 w13 r1 r2 r3
          have HS13 : Hid (Sb w _ #[.string z, .int .u8 ((K : Nat) : Int), .slice (some ⟨b5, o5, none⟩) pn pc, .string zo, .int .i64 wd, .int .i64 qt] v13 (P3 ++ (x.after.take (i + 1)).flatMap textB) w13) := (unhide HS12).grown (by rw [unhide HF1]; simpa using r1) r2 r3
          clear r1 r2 r3 HS12 HB12
          go_wp2_with fail
          exact ⟨⟨i + 1, by omega, by go_num, unhide HS13⟩, by simp [intOf]; omega⟩
        · have e : i = pn := by omega
          have hii : ¬ ((i : Nat) : Int) < ((pn : Nat) : Int) := by omega
          obtain ⟨P4, hP4⟩ : ∃ P, P = P3 ++ x.after.flatMap textB := ⟨_, rfl⟩
          have HE4 : Hid (P3 ++ (x.after.take i).flatMap textB = P4) := by show _ = _; rw [hP4, List.take_of_length_le (by have := unhide HAN; omega)]
          rw [unhide HE4] at HS11
          have HP4l : Hid (P4.length = P3.length + (x.after.flatMap textB).length) := by show _ = _; rw [hP4, List.length_append]
          rw [← hP4] at HBY
          obtain ⟨P5, hP5⟩ : ∃ P, P = P4 ++ numB qt := ⟨_, rfl⟩
          rw [← hP5] at HBY
          have HP5 := hide hP5
          have HP5l : Hid (P5.length = P4.length + (numB qt).length) := by show _ = _; rw [hP5, List.length_append]
          clear e hP4 hP5 HE4 hil
          go_wp2_with fail
          refine (unhide HNQ _).mono ?_
          rintro e w14 ⟨r14, rfl, hO14⟩
          have HS14 := hide ((unhide HS11).later hO14.bb)
          have HB14 := hide hO14.fresh.1.1
          clear hO14 e0 e1 e2 e3 e4 e5 HS11
          go_wp2_with (at_builtin; refine wpList_append_bytes _ rfl _ _ 28 rfl 5 ti (.int .u8 0) Tryz.underlying28 hti hz0 hz1 hz2 rfl _ P4 rfl (unhide HS14).own.own _ (numB qt) rfl (unhide HB14) (by have := unhide HLN; have := unhide HP3l; have := unhide HP4l; omega) ?_)
          rintro v15 w15 r1 r2 r3
          have HS15 : Hid (Sb w _ #[.string z, .int .u8 ((K : Nat) : Int), .slice pa pn pc, .string zo, .int .i64 wd, .int .i64 qt] v15 P5 w15) := (unhide HS14).grown (by rw [unhide HP5]; simpa using r1) r2 r3
          clear r1 r2 r3 HS14 HB14
          obtain ⟨e0, e1, e2, e3, e4, e5⟩ := (unhide HS15).cells
          by_cases k1 : K = 1
          · have g1 : (((K : Nat) : Int) == 1) = true := by rw [beq_iff_eq]; omega
            rw [if_pos k1] at HBY
            obtain ⟨P6, hP6⟩ : ∃ P, P = P5 ++ textB x.over := ⟨_, rfl⟩
            have HBY2 : Hid (P0 ++ x.bytes = P6 ++ numB wd) := by show _ = _; rw [hP6, List.append_assoc]; exact unhide HBY
            have HP6 := hide hP6
            have HP6l : Hid (P6.length = P5.length + (textB x.over).length) := by show _ = _; rw [hP6, List.length_append]
            clear k1 hP6
            go_wp2_with fail
            refine (unhide HNO _).mono ?_
            rintro e w16 ⟨r16, rfl, hO16⟩
            have HS16 := hide ((unhide HS15).later hO16.bb)
            have HB16 := hide hO16.fresh.1.1
            clear hO16 e0 e1 e2 e3 e4 e5 HS15
            go_wp2_with (at_builtin; refine wpList_append_bytes _ rfl _ _ 28 rfl 5 ti (.int .u8 0) Tryz.underlying28 hti hz0 hz1 hz2 rfl _ P5 rfl (unhide HS16).own.own _ (textB x.over) rfl (unhide HB16) (by have := unhide HLN; have := unhide HP3l; have := unhide HP4l; have := unhide HP5l; have := unhide HLO; omega) ?_)
            rintro v17 w17 r1 r2 r3
            have HS17 : Hid (Sb w _ #[.string z, .int .u8 ((K : Nat) : Int), .slice pa pn pc, .string zo, .int .i64 wd, .int .i64 qt] v17 P6 w17) := (unhide HS16).grown (by rw [unhide HP6]; simpa using r1) r2 r3
            clear r1 r2 r3 HS16 HB16
            obtain ⟨e0, e1, e2, e3, e4, e5⟩ := (unhide HS17).cells
            go_wp2_with fail
            refine (unhide HNW _).mono ?_
            rintro e w18 ⟨r18, rfl, hO18⟩
            have HS18 := hide ((unhide HS17).later hO18.bb)
            have HB18 := hide hO18.fresh.1.1
            clear hO18 e0 e1 e2 e3 e4 e5 HS17
            go_wp2_with (at_builtin; refine wpList_append_bytes _ rfl _ _ 28 rfl 5 ti (.int .u8 0) Tryz.underlying28 hti hz0 hz1 hz2 rfl _ P6 rfl (unhide HS18).own.own _ (numB wd) rfl (unhide HB18) (by have := unhide HLN; have := unhide HP3l; have := unhide HP4l; have := unhide HP5l; have := unhide HP6l; have := unhide HLO; omega) ?_)
            rintro v19 w19 r1 r2 r3
            have HO19 : Hid (Own w v19 (numB ((n : Nat) : Int) ++ (l.take (j + 1)).flatMap FI.bytes) w19) := by
              show Own _ _ _ _
              rw [unhide HTS, unhide HBY2]
              exact (unhide HS18).own.grown (by simpa using r1) r2 r3
            clear r1 r2 r3 HS18 HB18
            go_wp2_with fail
            exact ⟨⟨j + 1, by omega, by go_num, unhide HO19⟩, by simp [intOf]; omega⟩
          · have g1 : (((K : Nat) : Int) == 1) = false := by rw [beq_eq_false_iff_ne]; omega
            rw [if_neg k1, List.append_nil] at HBY
            have HO19 : Hid (Own w v15 (numB ((n : Nat) : Int) ++ (l.take (j + 1)).flatMap FI.bytes) w15) := by
              show Own _ _ _ _
              rw [unhide HTS, unhide HBY]
              exact (unhide HS15).own
            clear k1
            go_wp2_with fail
            exact ⟨⟨j + 1, by omega, by go_num, unhide HO19⟩, by simp [intOf]; omega⟩
    · have e : j = n := by omega
      have hji : ¬ ((j : Nat) : Int) < ((n : Nat) : Int) := by omega
      have HO4 : Hid (Own w u3 (bytesF l) wr) := by
        show Own _ _ _ _
        rw [unhide HCS]
        rw [e] at hO3
        exact hO3
      clear e hO3
      go_wp2_with fail
      go_ret
      exact ⟨_, rfl, unhide HO4⟩
end Go.Proofs.YtdlbpbglidhlfaaGreatDoor

namespace Go.Proofs.YtdlbpbglidhlfaaGreatDoor
open Go.RowKit

/-- Bytes of ours beside a block of an operation. -/
structure Sq (w0 : World) (g : Nat) (row : Array Value) (r : Value) (bs : List UInt8) (W : World) : Prop where
  own : Own w0 r bs W
  box : W.heap[g]? = some (.cells row 27 (0, 0))
  ne : r.ownBlock ≠ some g
theorem Sq.later {w0 W W' : World} {g : Nat} {row : Array Value} {r : Value} {bs : List UInt8} (h : Sq w0 g row r bs W) (hb : Below W.heap.size W W') : Sq w0 g row r bs W' :=
  ⟨h.own.later hb, (hb.block _ (Array.getElem?_eq_some_iff.1 h.box).1).trans h.box, h.ne⟩
theorem Sq.put {w0 W W' : World} {g : Nat} {row : Array Value} {r r' : Value} {bs cs : List UInt8} (h : Sq w0 g row r bs W) (hO : Own w0 r' cs W') (hG : GR W r W' r') : Sq w0 g row r' cs W' :=
  ⟨hO, (hG.block g (Array.getElem?_eq_some_iff.1 h.box).1 h.ne).trans h.box, hG.ne (Array.getElem?_eq_some_iff.1 h.box).1 h.ne⟩
theorem Sq.grown {w0 W W' : World} {g : Nat} {row : Array Value} {r r' : Value} {bs cs : List UInt8} (h : Sq w0 g row r bs W) (r1 : W'.ownsRow 0 5 1 r' cs.length (cs.map bv)) (r2 : W.grownBy W' r.ownBlock) (r3 : r'.ownBlock = r.ownBlock ∨ ∃ k, r'.ownBlock = some k ∧ W.heap.size ≤ k) : Sq w0 g row r' cs W' :=
  h.put (h.own.grown r1 r2 r3) (GR.of r2 r3)
theorem Sq.cells {w0 W : World} {g : Nat} {v0 v1 v2 v3 v4 v5 v6 v7 v8 : Value} {r : Value} {bs : List UInt8} (h : Sq w0 g #[v0, v1, v2, v3, v4, v5, v6, v7, v8] r bs W) : W.cell? ⟨g, 0, none⟩ = some v0 ∧ W.cell? ⟨g, 1, none⟩ = some v1 ∧ W.cell? ⟨g, 2, none⟩ = some v2 ∧ W.cell? ⟨g, 3, none⟩ = some v3 ∧ W.cell? ⟨g, 4, none⟩ = some v4 ∧ W.cell? ⟨g, 5, none⟩ = some v5 ∧ W.cell? ⟨g, 6, none⟩ = some v6 ∧ W.cell? ⟨g, 7, none⟩ = some v7 ∧ W.cell? ⟨g, 8, none⟩ = some v8 := cells9 h.box

set_option maxRecDepth 100000 in
set_option maxHeartbeats 8000000 in
theorem rOBytes_any (o : OD) (B : Nat → Prop) (u : Value) (w : World) (h : o.At B w u) (hr : o.right = true) : Calls Tryz.prog 13 #[u] w fun e w' => ∃ r, e = .returned r ∧ Own w r o.bytes w' := by
  obtain ⟨ti, hti, hz0, hz1, hz2⟩ := infoByte
  obtain ⟨L, s, t, K, N, z, a, m, c, fa, fn, fc, q, rfl, hp⟩ := h.form
  unfold OD.form9
  obtain ⟨W1, hW1⟩ : ∃ W1, W1 = w.alloc (.cells #[.int .u8 ((L : Nat) : Int), .string s, .int .i64 t, .int .u8 ((K : Nat) : Int), .int .i64 N, .string z, .slice a m c, .slice fa fn fc, .int .i64 q] 27) := ⟨_, rfl⟩
  have hb1 : Below w.heap.size w W1 := by rw [hW1]; exact (Below.refl _ _).alloc (Nat.le_refl _) _
  have hg1 : W1.heap[w.heap.size]? = some (.cells #[.int .u8 ((L : Nat) : Int), .string s, .int .i64 t, .int .u8 ((K : Nat) : Int), .int .i64 N, .string z, .slice a m c, .slice fa fn fc, .int .i64 q] 27 (0, 0)) := by rw [hW1]; exact heap_alloc_new _ _
  have hl1 := (Array.getElem?_eq_some_iff.1 hg1).1
  have HPT : Hid (∀ X, Below w.heap.size w X → OD.Parts B X o L s t K N z a m c fa fn fc q) := fun X hX => hp.later hX
  have HB1 := hide hb1
  have HLR : Hid (InR ((L : Nat) : Int)) := by show InR _; rw [hp.wh]; have := hp.fits.wh; unfold InR; omega
  have HTR : Hid (InR t) := by show InR _; rw [hp.tk]; exact hp.fits.tk
  have HQR : Hid (InR q) := by show InR _; rw [hp.qt]; exact hp.fits.qt
  have hil := OD.right_len hr
  have HIL := hide hil
  have HIB : Hid ((textB o.id).length ≤ 410) := textB_le4 hil
  have HTB : Hid ((numB t).length ≤ 10) := numB_ten (unhide HTR)
  have HQB : Hid ((numB q).length ≤ 10) := numB_ten (unhide HQR)
  have HTK := hide hp.tk
  have HQT := hide hp.qt
  have HWH := hide hp.wh
  have hL0 : ((L : Nat) : Int) ≤ 255 := by rw [hp.wh]; have := hp.fits.wh; omega
  have HST : Hid (∀ r bs W, Own W1 r bs W → Sq w w.heap.size #[.int .u8 ((L : Nat) : Int), .string s, .int .i64 t, .int .u8 ((K : Nat) : Int), .int .i64 N, .string z, .slice a m c, .slice fa fn fc, .int .i64 q] r bs W) := fun r bs W hO => ⟨hO.lift hb1, (hO.bb.block _ hl1).trans hg1, fun e => by have := hO.new _ e; omega⟩
  obtain ⟨e0, e1, e2, e3, e4, e5, e6, e7, e8⟩ := cells9 hg1
  have hcs := OD.right_cases hr
  rw [← hp.wh] at hcs
  have HVF := hide hp.value.fits
  obtain rfl := hp.id
  clear hg1 hb1 h hr hp hl1 hil
  rcases hcs with ⟨hw, hfr, -⟩ | ⟨hw, -⟩ | ⟨hw, -, -, hvr, hfr, -⟩ | ⟨hw, -⟩
  · have HHW := hide hw
    have g1 : (((L : Nat) : Int) == 1) = true := by rw [beq_iff_eq]; omega
    have HFR := hide hfr
    have HFB : Hid ((bytesF o.frag).length ≤ 31000) := bytesF_le hfr
    clear hfr
    clear hw
    go_enter Tryz.func13, Tryz.ntmps13
    go_upto_region 1 with fail
    rw [← hW1]
    clear hW1
    go_wp2_with fail
    refine (wRefNum_any ((L : Nat) : Int) (unhide HLR) _).mono ?_
    rintro e w2 ⟨r2, rfl, hO⟩
    have HS := hide (unhide HST _ _ _ hO)
    obtain ⟨pr, hpr⟩ : ∃ pr, pr = numB ((L : Nat) : Int) := ⟨_, rfl⟩
    rw [← hpr] at HS
    have HLN : Hid (pr.length ≤ 10) := by show _ ≤ _; rw [hpr]; exact numB_ten (unhide HLR)
    have HEQ := hide hpr
    clear hO hpr e0 e1 e2 e3 e4 e5 e6 e7 e8
    obtain ⟨e0, e1, e2, e3, e4, e5, e6, e7, e8⟩ := (unhide HS).cells
    go_wp2_with fail
    refine (rBytes_any o.frag B _ _ (unhide HPT _ (unhide HS).own.bb).frag (unhide HFR)).mono ?_
    rintro e w3 ⟨r3, rfl, hO⟩
    have HS3 := hide ((unhide HS).later hO.bb)
    have HB3 := hide hO.fresh.1.1
    clear hO e0 e1 e2 e3 e4 e5 e6 e7 e8 HS
    obtain ⟨p2, hp2⟩ : ∃ p2, p2 = pr ++ bytesF o.frag := ⟨_, rfl⟩
    have HLN2 : Hid (p2.length ≤ 31010) := by show _ ≤ _; rw [hp2, List.length_append]; have := unhide HLN; have := unhide HFB; omega
    have HP2 := hide hp2
    have HEQ2 : Hid (p2 = numB ((L : Nat) : Int) ++ bytesF o.frag) := by show _ = _; rw [hp2, unhide HEQ]
    clear hp2
    go_wp2_with (at_builtin; refine wpList_append_bytes _ rfl _ _ 28 rfl 5 ti (.int .u8 0) Tryz.underlying28 hti hz0 hz1 hz2 rfl _ pr rfl (unhide HS3).own.own _ (bytesF o.frag) rfl (unhide HB3) (by have := unhide HLN; have := unhide HFB; omega) ?_)
    rintro v4 w4 r1 r2 r3
    have HS : Hid (Sq w w.heap.size #[.int .u8 ((L : Nat) : Int), .string ⟨o.id.toArray⟩, .int .i64 t, .int .u8 ((K : Nat) : Int), .int .i64 N, .string z, .slice a m c, .slice fa fn fc, .int .i64 q] v4 p2 w4) := (unhide HS3).grown (by rw [unhide HP2]; simpa using r1) r2 r3
    clear r1 r2 r3 HS3 HB3 HP2 HLN HEQ
    have HLN := hide (unhide HLN2)
    have HEQ := hide (unhide HEQ2)
    clear HLN2 HEQ2
    obtain ⟨e0, e1, e2, e3, e4, e5, e6, e7, e8⟩ := (unhide HS).cells
    generalize p2 = pr at *
    go_wp2_with fail
    refine (wRefNum_any q (unhide HQR) _).mono ?_
    rintro e w3 ⟨r3, rfl, hO⟩
    have HS3 := hide ((unhide HS).later hO.bb)
    have HB3 := hide hO.fresh.1.1
    clear hO e0 e1 e2 e3 e4 e5 e6 e7 e8 HS
    obtain ⟨p2, hp2⟩ : ∃ p2, p2 = pr ++ numB q := ⟨_, rfl⟩
    have HLN2 : Hid (p2.length ≤ 31020) := by show _ ≤ _; rw [hp2, List.length_append]; have := unhide HLN; have := unhide HQB; omega
    have HP2 := hide hp2
    have HEQ2 : Hid (p2 = numB ((L : Nat) : Int) ++ bytesF o.frag ++ numB q) := by show _ = _; rw [hp2, unhide HEQ]
    clear hp2
    go_wp2_with (at_builtin; refine wpList_append_bytes _ rfl _ _ 28 rfl 5 ti (.int .u8 0) Tryz.underlying28 hti hz0 hz1 hz2 rfl _ pr rfl (unhide HS3).own.own _ (numB q) rfl (unhide HB3) (by have := unhide HLN; have := unhide HQB; omega) ?_)
    rintro v4 w4 r1 r2 r3
    have HS : Hid (Sq w w.heap.size #[.int .u8 ((L : Nat) : Int), .string ⟨o.id.toArray⟩, .int .i64 t, .int .u8 ((K : Nat) : Int), .int .i64 N, .string z, .slice a m c, .slice fa fn fc, .int .i64 q] v4 p2 w4) := (unhide HS3).grown (by rw [unhide HP2]; simpa using r1) r2 r3
    clear r1 r2 r3 HS3 HB3 HP2 HLN HEQ
    have HLN := hide (unhide HLN2)
    have HEQ := hide (unhide HEQ2)
    clear HLN2 HEQ2
    obtain ⟨e0, e1, e2, e3, e4, e5, e6, e7, e8⟩ := (unhide HS).cells
    generalize p2 = pr at *
    go_wp2_with fail
    go_ret
    refine ⟨_, rfl, ?_⟩
    have h := (unhide HS).own
    rw [unhide HEQ] at h
    try rw [unhide HTK] at h
    try rw [unhide HQT] at h
    have e : numB ((L : Nat) : Int) ++ bytesF o.frag ++ numB o.quota = o.bytes := by rw [show o.bytes = numB ((o.what : Nat) : Int) ++ (bytesF o.frag ++ numB o.quota) by have e : o.what = 1 := (unhide HWH).symm.trans (unhide HHW); rw [OD.bytes_1 e, e]; rfl, ← unhide HWH] <;> simp only [List.append_assoc]
    rw [e] at h
    exact h
  · have HHW := hide hw
    have g1 : (((L : Nat) : Int) == 1) = false := by rw [beq_eq_false_iff_ne]; omega
    have g3 : (((L : Nat) : Int) == 3) = false := by rw [beq_eq_false_iff_ne]; omega
    have g4 : (((L : Nat) : Int) == 4) = false := by rw [beq_eq_false_iff_ne]; omega
    clear hw
    go_enter Tryz.func13, Tryz.ntmps13
    go_upto_region 1 with fail
    rw [← hW1]
    clear hW1
    go_wp2_with fail
    refine (wRefNum_any ((L : Nat) : Int) (unhide HLR) _).mono ?_
    rintro e w2 ⟨r2, rfl, hO⟩
    have HS := hide (unhide HST _ _ _ hO)
    obtain ⟨pr, hpr⟩ : ∃ pr, pr = numB ((L : Nat) : Int) := ⟨_, rfl⟩
    rw [← hpr] at HS
    have HLN : Hid (pr.length ≤ 10) := by show _ ≤ _; rw [hpr]; exact numB_ten (unhide HLR)
    have HEQ := hide hpr
    clear hO hpr e0 e1 e2 e3 e4 e5 e6 e7 e8
    obtain ⟨e0, e1, e2, e3, e4, e5, e6, e7, e8⟩ := (unhide HS).cells
    go_wp2_with fail
    refine (wRefText_any o.id (by have := unhide HIL; omega) _).mono ?_
    rintro e w3 ⟨r3, rfl, hO⟩
    have HS3 := hide ((unhide HS).later hO.bb)
    have HB3 := hide hO.fresh.1.1
    clear hO e0 e1 e2 e3 e4 e5 e6 e7 e8 HS
    obtain ⟨p2, hp2⟩ : ∃ p2, p2 = pr ++ textB o.id := ⟨_, rfl⟩
    have HLN2 : Hid (p2.length ≤ 420) := by show _ ≤ _; rw [hp2, List.length_append]; have := unhide HLN; have := unhide HIB; omega
    have HP2 := hide hp2
    have HEQ2 : Hid (p2 = numB ((L : Nat) : Int) ++ textB o.id) := by show _ = _; rw [hp2, unhide HEQ]
    clear hp2
    go_wp2_with (at_builtin; refine wpList_append_bytes _ rfl _ _ 28 rfl 5 ti (.int .u8 0) Tryz.underlying28 hti hz0 hz1 hz2 rfl _ pr rfl (unhide HS3).own.own _ (textB o.id) rfl (unhide HB3) (by have := unhide HLN; have := unhide HIB; omega) ?_)
    rintro v4 w4 r1 r2 r3
    have HS : Hid (Sq w w.heap.size #[.int .u8 ((L : Nat) : Int), .string ⟨o.id.toArray⟩, .int .i64 t, .int .u8 ((K : Nat) : Int), .int .i64 N, .string z, .slice a m c, .slice fa fn fc, .int .i64 q] v4 p2 w4) := (unhide HS3).grown (by rw [unhide HP2]; simpa using r1) r2 r3
    clear r1 r2 r3 HS3 HB3 HP2 HLN HEQ
    have HLN := hide (unhide HLN2)
    have HEQ := hide (unhide HEQ2)
    clear HLN2 HEQ2
    obtain ⟨e0, e1, e2, e3, e4, e5, e6, e7, e8⟩ := (unhide HS).cells
    generalize p2 = pr at *
    go_wp2_with fail
    go_ret
    refine ⟨_, rfl, ?_⟩
    have h := (unhide HS).own
    rw [unhide HEQ] at h
    try rw [unhide HTK] at h
    try rw [unhide HQT] at h
    have e : numB ((L : Nat) : Int) ++ textB o.id = o.bytes := by rw [show o.bytes = numB ((o.what : Nat) : Int) ++ textB o.id by rcases unhide HHW with h | h <;> (have e := (unhide HWH).symm.trans h; first | exact (OD.bytes_2 e).trans (by rw [e] <;> rfl) | exact (OD.bytes_5 e).trans (by rw [e] <;> rfl)), ← unhide HWH] <;> simp only [List.append_assoc]
    rw [e] at h
    exact h
  · have HHW := hide hw
    have g1 : (((L : Nat) : Int) == 1) = false := by rw [beq_eq_false_iff_ne]; omega
    have g3 : (((L : Nat) : Int) == 3) = true := by rw [beq_iff_eq]; omega
    have HVP : Hid (o.value.parts ≤ 200) := by show _ ≤ _; have h := hvr; unfold VD.right at h; simp only [Bool.and_eq_true, decide_eq_true_eq] at h; omega
    have HVK : Hid (o.value.kinds = true) := by show _ = _; have h := hvr; unfold VD.right at h; simp only [Bool.and_eq_true] at h; exact h.1.1
    have HVB : Hid (o.value.bytes.length ≤ 26000) := VD.right_bytes_le hvr (unhide HVF)
    clear hvr
    have HFR := hide hfr
    have HFB : Hid ((bytesF o.frag).length ≤ 31000) := bytesF_le hfr
    clear hfr
    clear hw
    go_enter Tryz.func13, Tryz.ntmps13
    go_upto_region 1 with fail
    rw [← hW1]
    clear hW1
    go_wp2_with fail
    refine (wRefNum_any ((L : Nat) : Int) (unhide HLR) _).mono ?_
    rintro e w2 ⟨r2, rfl, hO⟩
    have HS := hide (unhide HST _ _ _ hO)
    obtain ⟨pr, hpr⟩ : ∃ pr, pr = numB ((L : Nat) : Int) := ⟨_, rfl⟩
    rw [← hpr] at HS
    have HLN : Hid (pr.length ≤ 10) := by show _ ≤ _; rw [hpr]; exact numB_ten (unhide HLR)
    have HEQ := hide hpr
    clear hO hpr e0 e1 e2 e3 e4 e5 e6 e7 e8
    obtain ⟨e0, e1, e2, e3, e4, e5, e6, e7, e8⟩ := (unhide HS).cells
    go_wp2_with fail
    refine (wRefText_any o.id (by have := unhide HIL; omega) _).mono ?_
    rintro e w3 ⟨r3, rfl, hO⟩
    have HS3 := hide ((unhide HS).later hO.bb)
    have HB3 := hide hO.fresh.1.1
    clear hO e0 e1 e2 e3 e4 e5 e6 e7 e8 HS
    obtain ⟨p2, hp2⟩ : ∃ p2, p2 = pr ++ textB o.id := ⟨_, rfl⟩
    have HLN2 : Hid (p2.length ≤ 420) := by show _ ≤ _; rw [hp2, List.length_append]; have := unhide HLN; have := unhide HIB; omega
    have HP2 := hide hp2
    have HEQ2 : Hid (p2 = numB ((L : Nat) : Int) ++ textB o.id) := by show _ = _; rw [hp2, unhide HEQ]
    clear hp2
    go_wp2_with (at_builtin; refine wpList_append_bytes _ rfl _ _ 28 rfl 5 ti (.int .u8 0) Tryz.underlying28 hti hz0 hz1 hz2 rfl _ pr rfl (unhide HS3).own.own _ (textB o.id) rfl (unhide HB3) (by have := unhide HLN; have := unhide HIB; omega) ?_)
    rintro v4 w4 r1 r2 r3
    have HS : Hid (Sq w w.heap.size #[.int .u8 ((L : Nat) : Int), .string ⟨o.id.toArray⟩, .int .i64 t, .int .u8 ((K : Nat) : Int), .int .i64 N, .string z, .slice a m c, .slice fa fn fc, .int .i64 q] v4 p2 w4) := (unhide HS3).grown (by rw [unhide HP2]; simpa using r1) r2 r3
    clear r1 r2 r3 HS3 HB3 HP2 HLN HEQ
    have HLN := hide (unhide HLN2)
    have HEQ := hide (unhide HEQ2)
    clear HLN2 HEQ2
    obtain ⟨e0, e1, e2, e3, e4, e5, e6, e7, e8⟩ := (unhide HS).cells
    generalize p2 = pr at *
    go_wp2_with fail
    refine (wRefNum_any t (unhide HTR) _).mono ?_
    rintro e w3 ⟨r3, rfl, hO⟩
    have HS3 := hide ((unhide HS).later hO.bb)
    have HB3 := hide hO.fresh.1.1
    clear hO e0 e1 e2 e3 e4 e5 e6 e7 e8 HS
    obtain ⟨p2, hp2⟩ : ∃ p2, p2 = pr ++ numB t := ⟨_, rfl⟩
    have HLN2 : Hid (p2.length ≤ 430) := by show _ ≤ _; rw [hp2, List.length_append]; have := unhide HLN; have := unhide HTB; omega
    have HP2 := hide hp2
    have HEQ2 : Hid (p2 = numB ((L : Nat) : Int) ++ textB o.id ++ numB t) := by show _ = _; rw [hp2, unhide HEQ]
    clear hp2
    go_wp2_with (at_builtin; refine wpList_append_bytes _ rfl _ _ 28 rfl 5 ti (.int .u8 0) Tryz.underlying28 hti hz0 hz1 hz2 rfl _ pr rfl (unhide HS3).own.own _ (numB t) rfl (unhide HB3) (by have := unhide HLN; have := unhide HTB; omega) ?_)
    rintro v4 w4 r1 r2 r3
    have HS : Hid (Sq w w.heap.size #[.int .u8 ((L : Nat) : Int), .string ⟨o.id.toArray⟩, .int .i64 t, .int .u8 ((K : Nat) : Int), .int .i64 N, .string z, .slice a m c, .slice fa fn fc, .int .i64 q] v4 p2 w4) := (unhide HS3).grown (by rw [unhide HP2]; simpa using r1) r2 r3
    clear r1 r2 r3 HS3 HB3 HP2 HLN HEQ
    have HLN := hide (unhide HLN2)
    have HEQ := hide (unhide HEQ2)
    clear HLN2 HEQ2
    obtain ⟨e0, e1, e2, e3, e4, e5, e6, e7, e8⟩ := (unhide HS).cells
    generalize p2 = pr at *
    go_wp2_with fail
    refine (vRefBytes_any o.value B _ _ (unhide HPT _ (unhide HS).own.bb).value (by have := unhide HVP; omega) (unhide HVK)).mono ?_
    rintro e w3 ⟨r3, rfl, hO⟩
    have HS3 := hide ((unhide HS).later hO.bb)
    have HB3 := hide hO.fresh.1.1
    clear hO e0 e1 e2 e3 e4 e5 e6 e7 e8 HS
    obtain ⟨p2, hp2⟩ : ∃ p2, p2 = pr ++ o.value.bytes := ⟨_, rfl⟩
    have HLN2 : Hid (p2.length ≤ 26430) := by show _ ≤ _; rw [hp2, List.length_append]; have := unhide HLN; have := unhide HVB; omega
    have HP2 := hide hp2
    have HEQ2 : Hid (p2 = numB ((L : Nat) : Int) ++ textB o.id ++ numB t ++ o.value.bytes) := by show _ = _; rw [hp2, unhide HEQ]
    clear hp2
    go_wp2_with (at_builtin; refine wpList_append_bytes _ rfl _ _ 28 rfl 5 ti (.int .u8 0) Tryz.underlying28 hti hz0 hz1 hz2 rfl _ pr rfl (unhide HS3).own.own _ (o.value.bytes) rfl (unhide HB3) (by have := unhide HLN; have := unhide HVB; omega) ?_)
    rintro v4 w4 r1 r2 r3
    have HS : Hid (Sq w w.heap.size #[.int .u8 ((L : Nat) : Int), .string ⟨o.id.toArray⟩, .int .i64 t, .int .u8 ((K : Nat) : Int), .int .i64 N, .string z, .slice a m c, .slice fa fn fc, .int .i64 q] v4 p2 w4) := (unhide HS3).grown (by rw [unhide HP2]; simpa using r1) r2 r3
    clear r1 r2 r3 HS3 HB3 HP2 HLN HEQ
    have HLN := hide (unhide HLN2)
    have HEQ := hide (unhide HEQ2)
    clear HLN2 HEQ2
    obtain ⟨e0, e1, e2, e3, e4, e5, e6, e7, e8⟩ := (unhide HS).cells
    generalize p2 = pr at *
    go_wp2_with fail
    refine (rBytes_any o.frag B _ _ (unhide HPT _ (unhide HS).own.bb).frag (unhide HFR)).mono ?_
    rintro e w3 ⟨r3, rfl, hO⟩
    have HS3 := hide ((unhide HS).later hO.bb)
    have HB3 := hide hO.fresh.1.1
    clear hO e0 e1 e2 e3 e4 e5 e6 e7 e8 HS
    obtain ⟨p2, hp2⟩ : ∃ p2, p2 = pr ++ bytesF o.frag := ⟨_, rfl⟩
    have HLN2 : Hid (p2.length ≤ 57430) := by show _ ≤ _; rw [hp2, List.length_append]; have := unhide HLN; have := unhide HFB; omega
    have HP2 := hide hp2
    have HEQ2 : Hid (p2 = numB ((L : Nat) : Int) ++ textB o.id ++ numB t ++ o.value.bytes ++ bytesF o.frag) := by show _ = _; rw [hp2, unhide HEQ]
    clear hp2
    go_wp2_with (at_builtin; refine wpList_append_bytes _ rfl _ _ 28 rfl 5 ti (.int .u8 0) Tryz.underlying28 hti hz0 hz1 hz2 rfl _ pr rfl (unhide HS3).own.own _ (bytesF o.frag) rfl (unhide HB3) (by have := unhide HLN; have := unhide HFB; omega) ?_)
    rintro v4 w4 r1 r2 r3
    have HS : Hid (Sq w w.heap.size #[.int .u8 ((L : Nat) : Int), .string ⟨o.id.toArray⟩, .int .i64 t, .int .u8 ((K : Nat) : Int), .int .i64 N, .string z, .slice a m c, .slice fa fn fc, .int .i64 q] v4 p2 w4) := (unhide HS3).grown (by rw [unhide HP2]; simpa using r1) r2 r3
    clear r1 r2 r3 HS3 HB3 HP2 HLN HEQ
    have HLN := hide (unhide HLN2)
    have HEQ := hide (unhide HEQ2)
    clear HLN2 HEQ2
    obtain ⟨e0, e1, e2, e3, e4, e5, e6, e7, e8⟩ := (unhide HS).cells
    generalize p2 = pr at *
    go_wp2_with fail
    go_ret
    refine ⟨_, rfl, ?_⟩
    have h := (unhide HS).own
    rw [unhide HEQ] at h
    try rw [unhide HTK] at h
    try rw [unhide HQT] at h
    have e : numB ((L : Nat) : Int) ++ textB o.id ++ numB o.token ++ o.value.bytes ++ bytesF o.frag = o.bytes := by rw [show o.bytes = numB ((o.what : Nat) : Int) ++ (textB o.id ++ (numB o.token ++ (o.value.bytes ++ bytesF o.frag))) by have e : o.what = 3 := (unhide HWH).symm.trans (unhide HHW); rw [OD.bytes_3 e, e]; rfl, ← unhide HWH] <;> simp only [List.append_assoc]
    rw [e] at h
    exact h
  · have HHW := hide hw
    have g1 : (((L : Nat) : Int) == 1) = false := by rw [beq_eq_false_iff_ne]; omega
    have g3 : (((L : Nat) : Int) == 3) = false := by rw [beq_eq_false_iff_ne]; omega
    have g4 : (((L : Nat) : Int) == 4) = true := by rw [beq_iff_eq]; omega
    clear hw
    go_enter Tryz.func13, Tryz.ntmps13
    go_upto_region 1 with fail
    rw [← hW1]
    clear hW1
    go_wp2_with fail
    refine (wRefNum_any ((L : Nat) : Int) (unhide HLR) _).mono ?_
    rintro e w2 ⟨r2, rfl, hO⟩
    have HS := hide (unhide HST _ _ _ hO)
    obtain ⟨pr, hpr⟩ : ∃ pr, pr = numB ((L : Nat) : Int) := ⟨_, rfl⟩
    rw [← hpr] at HS
    have HLN : Hid (pr.length ≤ 10) := by show _ ≤ _; rw [hpr]; exact numB_ten (unhide HLR)
    have HEQ := hide hpr
    clear hO hpr e0 e1 e2 e3 e4 e5 e6 e7 e8
    obtain ⟨e0, e1, e2, e3, e4, e5, e6, e7, e8⟩ := (unhide HS).cells
    go_wp2_with fail
    refine (wRefText_any o.id (by have := unhide HIL; omega) _).mono ?_
    rintro e w3 ⟨r3, rfl, hO⟩
    have HS3 := hide ((unhide HS).later hO.bb)
    have HB3 := hide hO.fresh.1.1
    clear hO e0 e1 e2 e3 e4 e5 e6 e7 e8 HS
    obtain ⟨p2, hp2⟩ : ∃ p2, p2 = pr ++ textB o.id := ⟨_, rfl⟩
    have HLN2 : Hid (p2.length ≤ 420) := by show _ ≤ _; rw [hp2, List.length_append]; have := unhide HLN; have := unhide HIB; omega
    have HP2 := hide hp2
    have HEQ2 : Hid (p2 = numB ((L : Nat) : Int) ++ textB o.id) := by show _ = _; rw [hp2, unhide HEQ]
    clear hp2
    go_wp2_with (at_builtin; refine wpList_append_bytes _ rfl _ _ 28 rfl 5 ti (.int .u8 0) Tryz.underlying28 hti hz0 hz1 hz2 rfl _ pr rfl (unhide HS3).own.own _ (textB o.id) rfl (unhide HB3) (by have := unhide HLN; have := unhide HIB; omega) ?_)
    rintro v4 w4 r1 r2 r3
    have HS : Hid (Sq w w.heap.size #[.int .u8 ((L : Nat) : Int), .string ⟨o.id.toArray⟩, .int .i64 t, .int .u8 ((K : Nat) : Int), .int .i64 N, .string z, .slice a m c, .slice fa fn fc, .int .i64 q] v4 p2 w4) := (unhide HS3).grown (by rw [unhide HP2]; simpa using r1) r2 r3
    clear r1 r2 r3 HS3 HB3 HP2 HLN HEQ
    have HLN := hide (unhide HLN2)
    have HEQ := hide (unhide HEQ2)
    clear HLN2 HEQ2
    obtain ⟨e0, e1, e2, e3, e4, e5, e6, e7, e8⟩ := (unhide HS).cells
    generalize p2 = pr at *
    go_wp2_with fail
    refine (wRefNum_any t (unhide HTR) _).mono ?_
    rintro e w3 ⟨r3, rfl, hO⟩
    have HS3 := hide ((unhide HS).later hO.bb)
    have HB3 := hide hO.fresh.1.1
    clear hO e0 e1 e2 e3 e4 e5 e6 e7 e8 HS
    obtain ⟨p2, hp2⟩ : ∃ p2, p2 = pr ++ numB t := ⟨_, rfl⟩
    have HLN2 : Hid (p2.length ≤ 430) := by show _ ≤ _; rw [hp2, List.length_append]; have := unhide HLN; have := unhide HTB; omega
    have HP2 := hide hp2
    have HEQ2 : Hid (p2 = numB ((L : Nat) : Int) ++ textB o.id ++ numB t) := by show _ = _; rw [hp2, unhide HEQ]
    clear hp2
    go_wp2_with (at_builtin; refine wpList_append_bytes _ rfl _ _ 28 rfl 5 ti (.int .u8 0) Tryz.underlying28 hti hz0 hz1 hz2 rfl _ pr rfl (unhide HS3).own.own _ (numB t) rfl (unhide HB3) (by have := unhide HLN; have := unhide HTB; omega) ?_)
    rintro v4 w4 r1 r2 r3
    have HS : Hid (Sq w w.heap.size #[.int .u8 ((L : Nat) : Int), .string ⟨o.id.toArray⟩, .int .i64 t, .int .u8 ((K : Nat) : Int), .int .i64 N, .string z, .slice a m c, .slice fa fn fc, .int .i64 q] v4 p2 w4) := (unhide HS3).grown (by rw [unhide HP2]; simpa using r1) r2 r3
    clear r1 r2 r3 HS3 HB3 HP2 HLN HEQ
    have HLN := hide (unhide HLN2)
    have HEQ := hide (unhide HEQ2)
    clear HLN2 HEQ2
    obtain ⟨e0, e1, e2, e3, e4, e5, e6, e7, e8⟩ := (unhide HS).cells
    generalize p2 = pr at *
    go_wp2_with fail
    go_ret
    refine ⟨_, rfl, ?_⟩
    have h := (unhide HS).own
    rw [unhide HEQ] at h
    try rw [unhide HTK] at h
    try rw [unhide HQT] at h
    have e : numB ((L : Nat) : Int) ++ textB o.id ++ numB o.token = o.bytes := by rw [show o.bytes = numB ((o.what : Nat) : Int) ++ (textB o.id ++ numB o.token) by have e : o.what = 4 := (unhide HWH).symm.trans (unhide HHW); rw [OD.bytes_4 e, e]; rfl, ← unhide HWH] <;> simp only [List.append_assoc]
    rw [e] at h
    exact h
end Go.Proofs.YtdlbpbglidhlfaaGreatDoor

namespace Go.Proofs.YtdlbpbglidhlfaaGreatDoor
open Go.RowKit

theorem set4_size (W : World) (g : Nat) (x y z u : Value) : ((((W.setCell ⟨g, 0, none⟩ x).setCell ⟨g, 1, none⟩ y).setCell ⟨g, 2, none⟩ z).setCell ⟨g, 3, none⟩ u).heap.size = W.heap.size := by
  rw [World.size_setCell, World.size_setCell, World.size_setCell, World.size_setCell]
theorem set4_block (W : World) (g : Nat) (x y z u : Value) {k : Nat} (h : k ≠ g) : ((((W.setCell ⟨g, 0, none⟩ x).setCell ⟨g, 1, none⟩ y).setCell ⟨g, 2, none⟩ z).setCell ⟨g, 3, none⟩ u).heap[k]? = W.heap[k]? := by
  rw [Below.heap_setCell _ _ _ _ h, Below.heap_setCell _ _ _ _ h, Below.heap_setCell _ _ _ _ h, Below.heap_setCell _ _ _ _ h]

set_option maxRecDepth 100000 in
set_option maxHeartbeats 2000000 in
/-- The document's Take. -/
theorem vRefTake_any (a : Option Addr) (n c : Nat) (bs : List UInt8) (w : World) (h : Bytes w (.slice a n c) bs) (hn : n ≤ 1048576) : Calls Tryz.prog 64 #[.slice a n c] w fun e w' => TookV w bs 6 e w' ∧ Below w.heap.size w w' := by
  obtain ⟨w1, hw1⟩ : ∃ w1, w1 = w.alloc (.cells #[.int .u8 0, .int .i64 0, .string ⟨#[]⟩, .slice none 0 0] 24) := ⟨_, rfl⟩
  have HB1 : Hid (Below w.heap.size w w1) := by rw [hw1]; exact (Below.refl _ w).alloc (Nat.le_refl _) _
  have HG1 : Hid (w1.heap[w.heap.size]? = some (.cells #[.int .u8 0, .int .i64 0, .string ⟨#[]⟩, .slice none 0 0] 24 (0, 0))) := by rw [hw1]; exact heap_alloc_new w _
  have HS1 : Hid (w1.heap.size = w.heap.size + 1) := by rw [hw1]; show _ = _; simp
  have HC := hide (vRead_any 6 (by omega) a n c bs w1 (h.laterW3 (unhide HB1)) hn)
  have HW1 := hide hw1
  clear h hw1
  go_enter Tryz.func64, Tryz.ntmps64
  go_upto_region 1 with fail
  rw [← unhide HW1]
  clear HW1
  go_wp2_with fail
  refine (unhide HC).mono ?_
  rintro e W ⟨ht, hb⟩
  have HG2 : Hid (W.heap[w.heap.size]? = some (.cells #[.int .u8 0, .int .i64 0, .string ⟨#[]⟩, .slice none 0 0] 24 (0, 0))) := by
    show _ = _
    rw [hb.block _ (by have := unhide HS1; omega)]; exact unhide HG1
  have HB2 := hide ((unhide HB1).trans (hb.mono (unhide HB1).size))
  obtain ⟨⟨c40, c41, c42, c43⟩, f40, f41, f42, f43⟩ := cells4 (unhide HG2)
  clear hb
  rcases ht with ⟨x, m, u, hv, rfl, hAt⟩ | ⟨hNo, rfl⟩
  · have HV := hide hv
    have HAT := hide hAt
    rw [VD.at_iff] at hAt
    obtain ⟨ea, ec, hu, _, _, _, _, _, _⟩ := hAt
    obtain ⟨xk, hxk⟩ : ∃ xk, xk = x.k := ⟨_, rfl⟩
    obtain ⟨xn, hxn⟩ : ∃ xn, xn = x.n := ⟨_, rfl⟩
    obtain ⟨z, hz⟩ : ∃ z : ByteArray, z = ⟨x.s.toArray⟩ := ⟨_, rfl⟩
    obtain ⟨xl, hxl⟩ : ∃ xl, xl = x.l.length := ⟨_, rfl⟩
    rw [← hxk, ← hxn, ← hz, ← hxl] at hu
    subst hu
    clear hv hxk hxn hz hxl
    go_wp2_with fail
    refine bodyPost_ret (results_ctv rfl _ _ _ _ _ _ _ rfl (set4_heap (unhide HG2) _ _ _ _) Tryz.underlying24 rfl (by kernel_rfl)) rfl ?_
    refine ⟨.inl ⟨x, m, _, unhide HV, rfl, ?_⟩, set4_below (unhide HB2) (Nat.le_refl _) _ _ _ _⟩
    exact (unhide HAT).kept (fun k hk _ => set4_block _ _ _ _ _ _ (by have := unhide HS1; omega)) (fun k hk _ => by have := unhide HS1; omega)
  · have HNO := hide hNo
    rw [zeroV]
    clear hNo
    go_wp2_with fail
    refine bodyPost_ret (results_ctv rfl _ _ _ _ _ _ _ rfl (set4_heap (unhide HG2) _ _ _ _) Tryz.underlying24 rfl (by kernel_rfl)) rfl ?_
    exact took_no (unhide HNO) (unhide HB2) rfl
end Go.Proofs.YtdlbpbglidhlfaaGreatDoor
