/- ValRefD, ValShow, ValRefE, ValRefF: our own definitions and contracts; no statement of the seat is proved here. -/
import Derived.Test.YtobgmbfoofkdeaaDoorBase01
import Derived.Test.YtobgmbfoofkdeaaDoorBase00
namespace Go.Proofs.YtobgmbfoofkdeaaDoor
open Go.RowKit

theorem VD.bytes_le (v : VD) : v.kinds = true → v.Fits → v.bytes.length ≤ 130 * v.parts := by
  induction v using VD.induct with
  | h v ih =>
    intro hk hf
    rcases VD.kinds_cases hk with ⟨n, rfl⟩ | ⟨s, rfl, hs⟩ | ⟨l, rfl, hl, hkl⟩
    · have h0 := numB_ten (n := 0) (by unfold InR; omega)
      have h1 := numB_ten hf.n
      simp only [VD.bytes, VD.parts, VD.partsL, List.length_append, VD.n] at *
      omega
    · have h0 := numB_ten (n := 1) (by unfold InR; omega)
      have h1 := numB_ten (n := ((s.length : Nat) : Int)) (by unfold InR; omega)
      simp only [VD.bytes, VD.parts, VD.partsL, textB, List.length_append] at *
      omega
    · have h0 := numB_ten (n := 2) (by unfold InR; omega)
      have h1 := numB_ten (n := ((l.length : Nat) : Int)) (by unfold InR; omega)
      have h2 : ∀ q : List VD, (∀ x ∈ q, x ∈ l) → (VD.bytesL q).length ≤ 130 * VD.partsL q := by
        intro q
        induction q with
        | nil => intro _; simp [VD.bytesL]
        | cons x q ih2 =>
          intro hq
          have hx := hq x (by simp)
          have a1 := ih x hx (hkl x hx) (hf.mem hx)
          have a2 := ih2 fun y hy => hq y (by simp [hy])
          simp only [VD.bytesL, VD.partsL, List.length_append]
          omega
      have h3 := h2 l fun x hx => hx
      have e : VD.bytes (.mk 2 0 [] l) = numB ((2 : Nat) : Int) ++ (numB ((l.length : Nat) : Int) ++ VD.bytesL l) := rfl
      have h0 : (numB ((2 : Nat) : Int)).length ≤ 10 := h0
      rw [e]
      simp only [VD.parts, List.length_append] at *
      omega
theorem VD.bytesL_take_le {v : VD} (hk : ∀ x ∈ v.l, x.kinds = true) (hf : v.Fits) (j : Nat) : (VD.bytesL (v.l.take j)).length ≤ 130 * VD.partsL v.l := by
  have h2 : ∀ q : List VD, (∀ x ∈ q, x ∈ v.l) → (VD.bytesL q).length ≤ 130 * VD.partsL q := by
    intro q
    induction q with
    | nil => intro _; simp [VD.bytesL]
    | cons x q ih2 =>
      intro hq
      have hx := hq x (by simp)
      have a1 := VD.bytes_le x (hk x hx) (hf.mem hx)
      have a2 := ih2 fun y hy => hq y (by simp [hy])
      simp only [VD.bytesL, VD.partsL, List.length_append]
      omega
  have h3 := h2 (v.l.take j) fun x hx => List.mem_of_mem_take hx
  have h4 := VD.partsL_take v.l j
  omega

set_option maxRecDepth 100000 in
set_option maxHeartbeats 4000000 in
theorem vRefBytes_any (v : VD) : ∀ (B : Nat → Prop) (u : Value) (w : World), v.At B w u → v.parts ≤ 1000000 → v.kinds = true → Calls Tryd.prog 18 #[u] w fun e w' => ∃ r, e = .returned r ∧ Own w r v.bytes w' := by
  induction v using VD.induct with
  | h v ih =>
    intro B u w hA hm hkd
    obtain ⟨ti, hti, hz0, hz1, hz2⟩ := infoByte
    have hfit := hA.fits
    obtain ⟨a, c, rfl, hlc, hbox⟩ := hA.box
    have hbx := hbox 24
    obtain ⟨w1, hw1⟩ : ∃ w1, w1 = w.alloc (.cells #[.int .u8 ((v.k : Nat) : Int), .int .i64 v.n, .string ⟨v.s.toArray⟩, .slice a v.l.length c] 24) := ⟨_, rfl⟩
    have HB1 : Hid (Below w.heap.size w w1) := by rw [hw1]; exact (Below.refl _ w).alloc (Nat.le_refl _) _
    rw [← hw1] at hbx
    have HBX := hide hbx
    have HW1 := hide hw1
    have HM := hide hm
    have HIH := hide ih
    have HFT := hide hfit
    have HPM := hide v.parts_mk
    have HBL := hide (VD.bytes_le v hkd hfit)
    clear hA hbox hm ih hfit hw1
    have c0 := hbx.c0
    have c1 := hbx.c1
    have c2 := hbx.c2
    have c3 := hbx.c3
    clear hbx
    rcases VD.kinds_cases hkd with ⟨n, rfl⟩ | ⟨s, rfl, hs⟩ | ⟨l, rfl, hl, hkl⟩
    · simp only [VD.k, VD.n, VD.s, VD.l, List.length_nil] at HW1 c0 c1 c2 c3 ⊢
      rw [show ((0 : Nat) : Int) = 0 from rfl] at HW1 c0 ⊢
      have HR0 : Hid (InR 0) := by show InR _; unfold InR; omega
      have HRN : Hid (InR n) := (unhide HFT).n
      have HBD : Hid (VD.bytes (.mk 0 n [] []) = numB 0 ++ numB n) := rfl
      have HTS : Hid ((numB 0).length + (numB n).length ≤ 140737488355328) := by show _ ≤ _; have := numB_ten (unhide HR0); have := numB_ten (unhide HRN); omega
      go_enter Tryd.func18, Tryd.ntmps18
      go_upto_region 1 with fail
      rw [← unhide HW1]
      go_wp2_with fail
      refine (wRefNum_any 0 (unhide HR0) _).mono ?_
      rintro e w2 ⟨r, rfl, hO⟩
      have HO := hide (hO.lift (unhide HB1))
      have hk : ∀ {p : Addr} {x : Value}, w1.cell? p = some x → w2.cell? p = some x := fun hx => (hO.bb.cell (World.block_lt_of_cell? _ _ hx)).trans hx
      have d0 := hk c0
      have d1 := hk c1
      clear hO hk c0 c1 c2 c3 HW1 HBX
      go_wp2_with fail
      refine (wRefNum_any n (unhide HRN) _).mono ?_
      rintro e w3 ⟨r3, rfl, hO3⟩
      have HO2 := hide ((unhide HO).later hO3.bb)
      have HB3 := hide hO3.fresh.1.1
      clear hO3 d0 d1
      go_wp2_with (at_builtin; refine wpList_append_bytes _ rfl _ _ 25 rfl 5 ti (.int .u8 0) Tryd.underlying25 hti hz0 hz1 hz2 rfl _ (numB 0) rfl (unhide HO2).own _ (numB n) rfl (unhide HB3) (unhide HTS) ?_)
      rintro v' w4 r1 r2 r3
      have HO4 := hide ((unhide HO2).grown (cs := numB 0 ++ numB n) (by simpa using r1) r2 r3)
      clear r1 r2 r3
      go_wp2
      go_ret
      exact ⟨_, rfl, by rw [unhide HBD]; exact unhide HO4⟩
    · simp only [VD.k, VD.n, VD.s, VD.l, List.length_nil] at HW1 c0 c1 c2 c3 ⊢
      rw [show ((1 : Nat) : Int) = 1 from rfl] at HW1 c0 ⊢
      have HR0 : Hid (InR 1) := by show InR _; unfold InR; omega
      have HBD : Hid (VD.bytes (.mk 1 0 s []) = numB 1 ++ textB s) := rfl
      have HTS : Hid ((numB 1).length + (textB s).length ≤ 140737488355328) := by show _ ≤ _; have := numB_ten (unhide HR0); have := numB_ten (n := ((s.length : Nat) : Int)) (by unfold InR; omega); rw [textB, List.length_append]; omega
      have HST : Hid (∀ W, Calls Tryd.prog 38 #[.string ⟨s.toArray⟩] W fun e w' => ∃ r, e = .returned r ∧ Own W r (textB s) w') := fun W => wRefText_any s (by omega) W
      generalize (⟨s.toArray⟩ : ByteArray) = z at *
      go_enter Tryd.func18, Tryd.ntmps18
      go_upto_region 1 with fail
      rw [← unhide HW1]
      go_wp2_with fail
      refine (wRefNum_any 1 (unhide HR0) _).mono ?_
      rintro e w2 ⟨r, rfl, hO⟩
      have HO := hide (hO.lift (unhide HB1))
      have hk : ∀ {p : Addr} {x : Value}, w1.cell? p = some x → w2.cell? p = some x := fun hx => (hO.bb.cell (World.block_lt_of_cell? _ _ hx)).trans hx
      have d0 := hk c0
      have d2 := hk c2
      clear hO hk c0 c1 c2 c3 HW1 HBX
      go_wp2_with fail
      refine (unhide HST _).mono ?_
      rintro e w3 ⟨r3, rfl, hO3⟩
      have HO2 := hide ((unhide HO).later hO3.bb)
      have HB3 := hide hO3.fresh.1.1
      clear hO3 d0 d2
      go_wp2_with (at_builtin; refine wpList_append_bytes _ rfl _ _ 25 rfl 5 ti (.int .u8 0) Tryd.underlying25 hti hz0 hz1 hz2 rfl _ (numB 1) rfl (unhide HO2).own _ (textB s) rfl (unhide HB3) (unhide HTS) ?_)
      rintro v' w4 r1 r2 r3
      have HO4 := hide ((unhide HO2).grown (cs := numB 1 ++ textB s) (by simpa using r1) r2 r3)
      clear r1 r2 r3
      go_wp2
      go_ret
      exact ⟨_, rfl, by rw [unhide HBD]; exact unhide HO4⟩
    · have HEL := hide (unhide HBX).el
      have HBTL : Hid (∀ j, (VD.bytesL (l.take j)).length ≤ 130 * VD.partsL l) := fun j => VD.bytesL_take_le (v := .mk 2 0 [] l) hkl (unhide HFT) j
      simp only [VD.k, VD.n, VD.s, VD.l] at HW1 c0 c1 c2 c3 HEL HPM HIH ⊢
      rw [show ((2 : Nat) : Int) = 2 from rfl] at HW1 c0 ⊢
      have HKL := hide hkl
      have HR0 : Hid (InR 2) := by show InR _; unfold InR; omega
      have HRL : Hid (InR ((l.length : Nat) : Int)) := by show InR _; unfold InR; omega
      have HBD : Hid (VD.bytes (.mk 2 0 [] l) = numB 2 ++ numB ((l.length : Nat) : Int) ++ VD.bytesL l) := by show _ = _; rw [List.append_assoc]; rfl
      obtain ⟨n, hn⟩ : ∃ n, n = l.length := ⟨_, rfl⟩
      rw [← hn] at HW1 c3 HRL HBD hl ⊢
      have HN := hide hn
      have HTS : Hid ((numB 2).length + (numB ((n : Nat) : Int)).length ≤ 140737488355328) := by show _ ≤ _; have := numB_ten (unhide HR0); have := numB_ten (unhide HRL); omega
      clear hn hkl
      go_enter Tryd.func18, Tryd.ntmps18
      go_upto_region 1 with fail
      rw [← unhide HW1]
      go_wp2_with fail
      refine (wRefNum_any 2 (unhide HR0) _).mono ?_
      rintro e w2 ⟨r, rfl, hO⟩
      have HO := hide hO
      have hk : ∀ {p : Addr} {x : Value}, w1.cell? p = some x → w2.cell? p = some x := fun hx => (hO.bb.cell (World.block_lt_of_cell? _ _ hx)).trans hx
      have d0 := hk c0
      have d3 := hk c3
      clear hO hk HW1
      go_wp2_with fail
      refine (wRefNum_any _ (unhide HRL) _).mono ?_
      rintro e w3 ⟨r3, rfl, hO3⟩
      have HO2 := hide ((unhide HO).later hO3.bb)
      have HB3 := hide hO3.fresh.1.1
      clear hO3 d0 d3
      go_wp2_with (at_builtin; refine wpList_append_bytes _ rfl _ _ 25 rfl 5 ti (.int .u8 0) Tryd.underlying25 hti hz0 hz1 hz2 rfl _ (numB 2) rfl (unhide HO2).own _ (numB ((n : Nat) : Int)) rfl (unhide HB3) (unhide HTS) ?_)
      rintro v' w4 r1 r2 r3
      have HO4 := hide ((unhide HO2).grown (cs := numB 2 ++ numB ((n : Nat) : Int)) (by simpa using r1) r2 r3)
      have HPT : Hid ((numB 2 ++ numB ((n : Nat) : Int)).length ≤ 20) := by show _ ≤ _; have := numB_ten (unhide HR0); have := numB_ten (unhide HRL); rw [List.length_append]; omega
      clear r1 r2 r3 HO HO2 HB3 HTS
      generalize numB 2 ++ numB ((n : Nat) : Int) = Pf at *
      go_wp2
      go_loopw [3, 4] (fun r k W => ∃ j : Nat, j ≤ n ∧ k = .int .i64 ((j : Nat) : Int) ∧ Own w1 r (Pf ++ VD.bytesL (l.take j)) W) (fun _ k _ => n - (intOf k).toNat)
      case atStart => exact ⟨0, by omega, rfl, by simpa [VD.bytesL] using unhide HO4⟩
      case round =>
        obtain ⟨j, hj, rfl, hO⟩ := hrel
        have HO := hide hO
        have hk : ∀ {p : Addr} {x : Value}, w1.cell? p = some x → wr.cell? p = some x := fun hx => (hO.bb.cell (World.block_lt_of_cell? _ _ hx)).trans hx
        have d3 := hk c3
        clear hO
        by_cases hlt : j < n
        · have hji : ((j : Nat) : Int) < ((n : Nat) : Int) := by omega
          have hjl : j < l.length := by have := unhide HN; omega
          obtain ⟨b, o, e0, e1, e2, e3, rfl, _, x0, x1, x2, x3, he⟩ := unhide HEL j hjl
          have y0 := hk x0
          have y1 := hk x1
          have y2 := hk x2
          have y3 := hk x3
          have hmem : l[j] ∈ l := List.getElem_mem hjl
          have hpl := VD.parts_mem hmem
          have HTS : Hid (VD.bytesL (l.take (j + 1)) = VD.bytesL (l.take j) ++ (l[j]).bytes) := by
            show _ = _
            rw [List.take_succ_eq_append_getElem hjl, VD.bytesL_append]
            simp [VD.bytesL]
          have HLE : Hid ((Pf ++ VD.bytesL (l.take j)).length + (l[j]).bytes.length ≤ 140737488355328) := by
            show _ ≤ _
            have h1 := unhide HBTL (j + 1)
            rw [unhide HTS, List.length_append] at h1
            rw [List.length_append]
            have := unhide HPT; have := unhide HM; have h5 := unhide HPM
            simp only [VD.parts] at *
            omega
          have HC : Hid (Calls Tryd.prog 18 #[.agg #[e0, e1, e2, e3]] wr fun e w' => ∃ r, e = .returned r ∧ Own wr r (l[j]).bytes w') := unhide HIH _ hmem B _ wr (he.later (unhide HO).bb) (by have := unhide HM; have h5 := unhide HPM; simp only [VD.parts] at *; omega) (unhide HKL _ hmem)
          generalize (l[j]).bytes = bj at *
          clear he hpl hmem x0 x1 x2 x3 hk c0 c1 c2 c3
          go_wp2_with fail
          refine (unhide HC).mono ?_
          rintro e w5 ⟨r5, rfl, hO5⟩
          have HO5 := hide ((unhide HO).later hO5.bb)
          have HB5 := hide hO5.fresh.1.1
          clear hO5 d3 y0 y1 y2 y3
          go_wp2_with (at_builtin; refine wpList_append_bytes _ rfl _ _ 25 rfl 5 ti (.int .u8 0) Tryd.underlying25 hti hz0 hz1 hz2 rfl _ (Pf ++ VD.bytesL (l.take j)) rfl (unhide HO5).own _ bj rfl (unhide HB5) (unhide HLE) ?_)
          rintro v' w6 r1 r2 r3
          have HO6 := hide ((unhide HO5).grown (cs := (Pf ++ VD.bytesL (l.take j)) ++ bj) (by simpa using r1) r2 r3)
          clear r1 r2 r3
          go_wp2
          exact ⟨⟨j + 1, by omega, by go_num, by rw [unhide HTS, ← List.append_assoc]; exact unhide HO6⟩, by simp [intOf]; omega⟩
        · have e : j = n := by omega
          have hji : ¬ ((j : Nat) : Int) < ((n : Nat) : Int) := by omega
          have HTK : Hid (l.take j = l) := List.take_of_length_le (by have := unhide HN; omega)
          rw [unhide HTK] at HO
          have HFB := hide ((unhide HO).lift (unhide HB1))
          clear e hk c0 c1 c2 c3
          go_wp2
          go_ret
          exact ⟨_, rfl, by rw [unhide HBD]; exact unhide HFB⟩
end Go.Proofs.YtobgmbfoofkdeaaDoor

namespace Go.Proofs.YtobgmbfoofkdeaaDoor

/-- A digit of a number below 16. -/
def dgt (x : Nat) : UInt8 := UInt8.ofNat (if x < 10 then 48 + x else 55 + x)
/-- A number's digits. -/
def decs (u : Nat) : List UInt8 := if u < 10 then [dgt u] else decs (u / 10) ++ [dgt (u % 10)]
termination_by u
decreasing_by omega
theorem decs_low {u : Nat} (h : u < 10) : decs u = [dgt u] := by rw [decs, if_pos h]
theorem decs_high {u : Nat} (h : 10 ≤ u) : decs u = decs (u / 10) ++ [dgt (u % 10)] := by rw [decs, if_neg (by omega)]
/-- A byte of a text. -/
def escB (c : UInt8) : List UInt8 := if c.toNat < 33 ∨ 126 < c.toNat ∨ c.toNat = 34 ∨ c.toNat = 37 then [37, dgt (c.toNat / 16), dgt (c.toNat % 16)] else [c]
/-- An integer's digits. -/
def decI (n : Int) : List UInt8 := if n < 0 then 45 :: decs (-n).toNat else decs n.toNat

mutual
def VD.shown : VD → List UInt8
  | .mk 0 n _ _ => decI n
  | .mk 1 _ s _ => 34 :: (s.flatMap escB ++ [34])
  | .mk _ _ _ l => 91 :: (VD.shownL true l ++ [93])
/-- A list's values: a comma ahead of each but the first one. -/
def VD.shownL : Bool → List VD → List UInt8
  | _, [] => []
  | f, x :: r => (if f then [] else [44]) ++ (x.shown ++ VD.shownL false r)
end
theorem VD.shownL_snoc (l : List VD) (x : VD) : ∀ f, VD.shownL f (l ++ [x]) = VD.shownL f l ++ ((if f && l.isEmpty then [] else [44]) ++ x.shown) := by
  induction l with
  | nil => intro f; simp [VD.shownL]
  | cons y l ih =>
    intro f
    simp only [List.cons_append, VD.shownL]
    rw [ih false]
    simp [List.append_assoc]

theorem dgt_toNat {x : Nat} (h : x < 16) : (dgt x).toNat = if x < 10 then 48 + x else 55 + x := by unfold dgt; split <;> rw [u8_toNat (by omega)]
theorem dgt_inj {x y : Nat} (hx : x < 16) (hy : y < 16) (h : dgt x = dgt y) : x = y := by
  have := congrArg UInt8.toNat h
  rw [dgt_toNat hx, dgt_toNat hy] at this
  split at this <;> split at this <;> omega
/-- Digits are from 48 to 57. -/
def IsDig (c : UInt8) : Prop := 48 ≤ c.toNat ∧ c.toNat ≤ 57
theorem dgt_dig {x : Nat} (h : x < 10) : IsDig (dgt x) := by unfold IsDig; rw [dgt_toNat (by omega), if_pos h]; omega
theorem decs_dig (u : Nat) : ∀ c ∈ decs u, IsDig c := by
  induction u using Nat.strongRecOn with
  | ind u ih =>
    by_cases h : u < 10
    · rw [decs_low h]; intro c hc; rw [List.mem_singleton.1 hc]; exact dgt_dig h
    · rw [decs_high (by omega)]
      intro c hc
      rcases List.mem_append.1 hc with h1 | h1
      · exact ih _ (by omega) c h1
      · rw [List.mem_singleton.1 h1]; exact dgt_dig (by omega)
theorem decs_ne (u : Nat) : decs u ≠ [] := by
  by_cases h : u < 10
  · rw [decs_low h]; simp
  · rw [decs_high (by omega)]; simp
/-- What digits are worth. -/
def decV (l : List UInt8) : Nat := l.foldl (fun s c => 10 * s + (c.toNat - 48)) 0
theorem decV_decs (u : Nat) : decV (decs u) = u := by
  induction u using Nat.strongRecOn with
  | ind u ih =>
    by_cases h : u < 10
    · rw [decs_low h]; simp only [decV, List.foldl_cons, List.foldl_nil]; rw [dgt_toNat (by omega), if_pos h]; omega
    · rw [decs_high (by omega)]
      have h1 := ih (u / 10) (by omega)
      unfold decV at *
      rw [List.foldl_append, h1]
      simp only [List.foldl_cons, List.foldl_nil]
      rw [dgt_toNat (by omega), if_pos (by omega)]
      omega
theorem decs_inj {u v : Nat} (h : decs u = decs v) : u = v := by rw [← decV_decs u, h, decV_decs]

/-- What may stand behind what is shown. -/
def Ends (r : List UInt8) : Prop := r = [] ∨ ∃ c t, r = c :: t ∧ (c = 44 ∨ c = 93)
theorem Ends.noDig {r : List UInt8} (h : Ends r) : ∀ c t, r = c :: t → ¬ IsDig c := by
  rintro c t rfl
  rcases h with h | ⟨c', t', h, hc⟩
  · cases h
  · cases h
    rcases hc with rfl | rfl <;> unfold IsDig <;> decide
theorem digs_part : ∀ {p q r s : List UInt8}, (∀ c ∈ p, IsDig c) → (∀ c ∈ q, IsDig c) → (∀ c t, r = c :: t → ¬ IsDig c) → (∀ c t, s = c :: t → ¬ IsDig c) → p ++ r = q ++ s → p = q ∧ r = s
  | [], [], r, s, _, _, _, _, h => ⟨rfl, by simpa using h⟩
  | [], c :: q, r, s, _, hq, hr, _, h => absurd (hq c (by simp)) (hr c (q ++ s) (by simpa using h))
  | c :: p, [], r, s, hp, _, _, hs, h => absurd (hp c (by simp)) (hs c (p ++ r) (by simpa using h.symm))
  | c :: p, d :: q, r, s, hp, hq, hr, hs, h => by
    simp only [List.cons_append, List.cons.injEq] at h
    obtain ⟨h1, h2⟩ := digs_part (fun x hx => hp x (by simp [hx])) (fun x hx => hq x (by simp [hx])) hr hs h.2
    exact ⟨by rw [h.1, h1], h2⟩
theorem decI_head (n : Int) : ∃ c t, decI n = c :: t ∧ (c = 45 ∨ IsDig c) := by
  unfold decI
  split
  · exact ⟨45, _, rfl, .inl rfl⟩
  · have h := decs_ne n.toNat
    have hd := decs_dig n.toNat
    generalize decs n.toNat = l at *
    match l, h with
    | c :: t, _ => exact ⟨c, t, rfl, .inr (hd c (by simp))⟩
theorem decI_part {m n : Int} {r s : List UInt8} (hr : Ends r) (hs : Ends s) (h : decI m ++ r = decI n ++ s) : m = n ∧ r = s := by
  have n45 : ¬ IsDig 45 := by unfold IsDig; decide
  have hhd : ∀ u : Nat, ∃ c t, decs u = c :: t ∧ IsDig c := fun u => by
    have h := decs_ne u
    have hd := decs_dig u
    generalize decs u = l at *
    match l, h with
    | c :: t, _ => exact ⟨c, t, rfl, hd c (by simp)⟩
  unfold decI at h
  split at h <;> split at h
  · simp only [List.cons_append, List.cons.injEq, true_and] at h
    obtain ⟨h1, h2⟩ := digs_part (decs_dig _) (decs_dig _) hr.noDig hs.noDig h
    have := decs_inj h1
    exact ⟨by omega, h2⟩
  · obtain ⟨c, t, e, hc⟩ := hhd n.toNat
    rw [e] at h
    simp only [List.cons_append, List.cons.injEq] at h
    rw [← h.1] at hc
    exact absurd hc n45
  · obtain ⟨c, t, e, hc⟩ := hhd m.toNat
    rw [e] at h
    simp only [List.cons_append, List.cons.injEq] at h
    rw [h.1] at hc
    exact absurd hc n45
  · obtain ⟨h1, h2⟩ := digs_part (decs_dig _) (decs_dig _) hr.noDig hs.noDig h
    have := decs_inj h1
    exact ⟨by omega, h2⟩

theorem escB_head (c : UInt8) : ∃ d t, escB c = d :: t ∧ d.toNat ≠ 34 := by
  unfold escB
  split
  · exact ⟨37, _, rfl, by decide⟩
  · rename_i h
    exact ⟨c, [], rfl, fun e => h (.inr (.inr (.inl e)))⟩
theorem escB_part {c d : UInt8} {r s : List UInt8} (h : escB c ++ r = escB d ++ s) : c = d ∧ r = s := by
  have hc := c.toNat_lt
  have hd := d.toNat_lt
  unfold escB at h
  split at h <;> split at h
  · simp only [List.cons_append, List.nil_append, List.cons.injEq, true_and] at h
    have h1 := dgt_inj (by omega) (by omega) h.1
    have h2 := dgt_inj (by omega) (by omega) h.2.1
    exact ⟨UInt8.toNat_inj.1 (by omega), h.2.2⟩
  · rename_i h1 h2
    simp only [List.cons_append, List.nil_append, List.cons.injEq] at h
    have := congrArg UInt8.toNat h.1
    have e : (37 : UInt8).toNat = 37 := rfl
    omega
  · rename_i h1 h2
    simp only [List.cons_append, List.nil_append, List.cons.injEq] at h
    have := congrArg UInt8.toNat h.1
    have e : (37 : UInt8).toNat = 37 := rfl
    omega
  · simpa using h
theorem text_part : ∀ {s t : List UInt8} {r q : List UInt8}, s.flatMap escB ++ 34 :: r = t.flatMap escB ++ 34 :: q → s = t ∧ r = q
  | [], [], r, q, h => ⟨rfl, by simpa using h⟩
  | [], d :: t, r, q, h => by
    obtain ⟨x, y, e, hx⟩ := escB_head d
    rw [List.flatMap_cons, e] at h
    simp only [List.flatMap_nil, List.nil_append, List.cons_append, List.cons.injEq] at h
    exact absurd (by rw [← h.1]; rfl) hx
  | c :: s, [], r, q, h => by
    obtain ⟨x, y, e, hx⟩ := escB_head c
    rw [List.flatMap_cons, e] at h
    simp only [List.flatMap_nil, List.nil_append, List.cons_append, List.cons.injEq] at h
    exact absurd (by rw [h.1]; rfl) hx
  | c :: s, d :: t, r, q, h => by
    simp only [List.flatMap_cons, List.append_assoc] at h
    obtain ⟨rfl, h2⟩ := escB_part h
    obtain ⟨rfl, h3⟩ := text_part h2
    exact ⟨rfl, h3⟩

/-- Unlike values are shown unlike. -/
theorem VD.shown_part (v : VD) : ∀ (w : VD) (r q : List UInt8), v.kinds = true → w.kinds = true → Ends r → Ends q → v.shown ++ r = w.shown ++ q → v = w ∧ r = q := by
  induction v using VD.induct with
  | h v ih =>
    have hl : ∀ (l : List VD), (∀ x ∈ l, ∀ (w : VD) (r q : List UInt8), x.kinds = true → w.kinds = true → Ends r → Ends q → x.shown ++ r = w.shown ++ q → x = w ∧ r = q) → ∀ (p : List VD) (f : Bool) (r q : List UInt8), (∀ x ∈ l, x.kinds = true) → (∀ x ∈ p, x.kinds = true) → VD.shownL f l ++ 93 :: r = VD.shownL f p ++ 93 :: q → l = p ∧ r = q := by
      have hd : ∀ (x : VD), x.kinds = true → ∃ c t, x.shown = c :: t ∧ c ≠ 93 ∧ c ≠ 44 := fun x hx => by
        rcases VD.kinds_cases hx with ⟨n, rfl⟩ | ⟨s, rfl, _⟩ | ⟨l, rfl, _⟩
        · obtain ⟨c, t, e, hc⟩ := decI_head n
          refine ⟨c, t, by rw [VD.shown]; exact e, ?_, ?_⟩ <;> rintro rfl <;> rcases hc with hc | hc
          · cases hc
          · unfold IsDig at hc; exact absurd hc (by decide)
          · cases hc
          · unfold IsDig at hc; exact absurd hc (by decide)
        · exact ⟨34, _, by rw [VD.shown], by decide, by decide⟩
        · exact ⟨91, VD.shownL true l ++ [93], rfl, by decide, by decide⟩
      have he : ∀ (l : List VD) (r : List UInt8), Ends (VD.shownL false l ++ 93 :: r) := fun l r => by
        cases l with
        | nil => exact .inr ⟨93, r, by simp [VD.shownL], .inr rfl⟩
        | cons x l => exact .inr ⟨44, _, by simp [VD.shownL]; rfl, .inl rfl⟩
      intro l
      induction l with
      | nil =>
        intro _ p f r q _ hp h
        cases p with
        | nil => exact ⟨rfl, by simpa [VD.shownL] using h⟩
        | cons y p =>
          obtain ⟨c, t, e, h1, h2⟩ := hd y (hp y (by simp))
          cases f <;> simp [VD.shownL, e] at h
          exact absurd h.1.symm h1
      | cons x l ih2 =>
        intro hx p f r q hk hp h
        cases p with
        | nil =>
          obtain ⟨c, t, e, h1, h2⟩ := hd x (hk x (by simp))
          cases f <;> simp [VD.shownL, e] at h
          exact absurd h.1 h1
        | cons y p =>
          have h' : x.shown ++ (VD.shownL false l ++ 93 :: r) = y.shown ++ (VD.shownL false p ++ 93 :: q) := by
            cases f <;> simpa [VD.shownL, List.append_assoc] using h
          obtain ⟨rfl, h2⟩ := hx x (by simp) y _ _ (hk x (by simp)) (hp y (by simp)) (he l r) (he p q) h'
          obtain ⟨rfl, h3⟩ := ih2 (fun z hz => hx z (by simp [hz])) p false r q (fun z hz => hk z (by simp [hz])) (fun z hz => hp z (by simp [hz])) h2
          exact ⟨rfl, h3⟩
    intro w r q hv hw hr hq h
    have hno : ∀ n : Int, ∃ c t, decI n = c :: t ∧ c ≠ 34 ∧ c ≠ 91 := fun n => by
      obtain ⟨c, t, e, hc⟩ := decI_head n
      refine ⟨c, t, e, ?_, ?_⟩ <;> rintro rfl <;> rcases hc with hc | hc
      · cases hc
      · unfold IsDig at hc; exact absurd hc (by decide)
      · cases hc
      · unfold IsDig at hc; exact absurd hc (by decide)
    have e2 : ∀ l : List VD, VD.shown (.mk 2 0 [] l) = 91 :: (VD.shownL true l ++ [93]) := fun _ => rfl
    rcases VD.kinds_cases hv with ⟨n, rfl⟩ | ⟨s, rfl, hs⟩ | ⟨l, rfl, hll, hk⟩ <;> rcases VD.kinds_cases hw with ⟨n', rfl⟩ | ⟨s', rfl, hs'⟩ | ⟨l', rfl, hll', hk'⟩
    · simp only [VD.shown] at h
      obtain ⟨rfl, rfl⟩ := decI_part hr hq h
      exact ⟨rfl, rfl⟩
    · obtain ⟨c, t, e, h1, h2⟩ := hno n
      simp only [VD.shown, e, List.cons_append, List.cons.injEq] at h
      exact absurd h.1 h1
    · obtain ⟨c, t, e, h1, h2⟩ := hno n
      rw [e2] at h
      simp only [VD.shown, e, List.cons_append, List.cons.injEq] at h
      exact absurd h.1 h2
    · obtain ⟨c, t, e, h1, h2⟩ := hno n'
      simp only [VD.shown, e, List.cons_append, List.cons.injEq] at h
      exact absurd h.1.symm h1
    · simp only [VD.shown, List.cons_append, List.cons.injEq, true_and, List.append_assoc, List.nil_append] at h
      obtain ⟨rfl, rfl⟩ := text_part h
      exact ⟨rfl, rfl⟩
    · rw [e2] at h
      simp only [VD.shown, List.cons_append, List.cons.injEq] at h
      exact absurd h.1 (by decide)
    · obtain ⟨c, t, e, h1, h2⟩ := hno n'
      rw [e2] at h
      simp only [VD.shown, e, List.cons_append, List.cons.injEq] at h
      exact absurd h.1.symm h2
    · rw [e2] at h
      simp only [VD.shown, List.cons_append, List.cons.injEq] at h
      exact absurd h.1 (by decide)
    · rw [e2, e2] at h
      simp only [List.cons_append, List.cons.injEq, true_and, List.append_assoc, List.nil_append] at h
      obtain ⟨rfl, rfl⟩ := hl l ih l' true r q hk hk' h
      exact ⟨rfl, rfl⟩
end Go.Proofs.YtobgmbfoofkdeaaDoor

namespace Go.Proofs.YtobgmbfoofkdeaaDoor
open Go.RowKit

theorem bytes_one2 (w : World) (x : Int) (y : UInt8) (h : x = ((y.toNat : Nat) : Int)) : Bytes (w.alloc (.cells #[.int .u8 x] 5)) (.slice (some ⟨w.heap.size, 0, none⟩) 1 1) [y] := by rw [h]; exact bytes_one w y
theorem str_add {P : Program} (w : World) (x y : List UInt8) (h : x.length + y.length ≤ 8388608) : (Op.stringOp .add ⟨x.toArray⟩ ⟨y.toArray⟩).run P w = .ok (.string ⟨(x ++ y).toArray⟩) w := run_string_add_lists (P := P) w x y (by omega) (by omega)

set_option maxHeartbeats 1000000 in
theorem vDigit_any (x : Nat) (hx : x < 16) (w : World) : Calls Tryd.prog 41 #[.int .u8 ((x : Nat) : Int)] w fun e w' => e = .returned (.string ⟨[dgt x].toArray⟩) ∧ Below w.heap.size w w' := by
  by_cases h : x < 10
  · have h' : ((x : Nat) : Int) < 10 := by omega
    have hd : (48 : Int) + ((x : Nat) : Int) = (((dgt x).toNat : Nat) : Int) := by rw [dgt_toNat hx, if_pos h]; omega
    have cv := run_convert_bytes (P := Tryd.prog) (w.alloc (.cells #[.int .u8 (48 + ((x : Nat) : Int))] 5)) 25 9 5 Tryd.underlying25 Tryd.underlying5 Tryd.underlying9 _ _ (bytes_one2 w _ _ hd)
    have HB : Hid (Below w.heap.size w (w.alloc (.cells #[.int .u8 (48 + ((x : Nat) : Int))] 5))) := (Below.refl _ w).alloc (Nat.le_refl _) _
    clear hd h
    generalize (⟨[dgt x].toArray⟩ : ByteArray) = z at *
    go_enter Tryd.func41, Tryd.ntmps41
    go_wp2
    go_ret
    exact ⟨rfl, unhide HB⟩
  · have h' : ¬ ((x : Nat) : Int) < 10 := by omega
    have hd : (65 : Int) + ((x : Nat) : Int) - 10 = (((dgt x).toNat : Nat) : Int) := by rw [dgt_toNat hx, if_neg h]; omega
    have cv := run_convert_bytes (P := Tryd.prog) (w.alloc (.cells #[.int .u8 (65 + ((x : Nat) : Int) - 10)] 5)) 25 9 5 Tryd.underlying25 Tryd.underlying5 Tryd.underlying9 _ _ (bytes_one2 w _ _ hd)
    have HB : Hid (Below w.heap.size w (w.alloc (.cells #[.int .u8 (65 + ((x : Nat) : Int) - 10)] 5))) := (Below.refl _ w).alloc (Nat.le_refl _) _
    clear hd h
    generalize (⟨[dgt x].toArray⟩ : ByteArray) = z at *
    go_enter Tryd.func41, Tryd.ntmps41
    go_wp2
    go_ret
    exact ⟨rfl, unhide HB⟩

theorem decs_length (u : Nat) : (decs u).length ≤ u + 1 := by
  induction u using Nat.strongRecOn with
  | ind u ih =>
    by_cases h : u < 10
    · rw [decs_low h]; simp
    · rw [decs_high (by omega), List.length_append]
      have := ih (u / 10) (by omega)
      simp only [List.length_singleton]
      omega
theorem decs_le (k : Nat) : ∀ u, u < 10 ^ (k + 1) → (decs u).length ≤ k + 1 := by
  induction k with
  | zero => intro u h; rw [decs_low (by simpa using h)]; simp
  | succ k ih =>
    intro u h
    by_cases hu : u < 10
    · rw [decs_low hu]; simp
    · rw [decs_high (by omega), List.length_append]
      have := ih (u / 10) (by rw [Nat.pow_succ] at h; exact Nat.div_lt_of_lt_mul (by omega))
      simp only [List.length_singleton]
      omega
theorem decs_20 {u : Nat} (h : u < 18446744073709551616) : (decs u).length ≤ 20 := decs_le 19 u (Nat.lt_of_lt_of_le h (by decide))

set_option maxRecDepth 100000 in
set_option maxHeartbeats 2000000 in
theorem vDigits_any (u : Nat) : ∀ (w : World), u < 18446744073709551616 → Calls Tryd.prog 40 #[.int .u64 ((u : Nat) : Int)] w fun e w' => e = .returned (.string ⟨(decs u).toArray⟩) ∧ Below w.heap.size w w' := by
  induction u using Nat.strongRecOn with
  | ind u ih =>
    intro w hu
    by_cases h : u < 10
    · have h' : ((u : Nat) : Int) < 10 := by omega
      have HD : Hid (decs u = [dgt u]) := decs_low h
      rw [unhide HD]
      have HC := hide (vDigit_any u (by omega))
      generalize (⟨[dgt u].toArray⟩ : ByteArray) = z at *
      clear ih
      go_enter Tryd.func40, Tryd.ntmps40
      go_wp2_with fail
      refine (unhide HC _).mono ?_
      rintro e w1 ⟨rfl, hb⟩
      have HB := hide hb
      clear hb
      go_wp2
      go_ret
      exact ⟨rfl, unhide HB⟩
    · have h' : ¬ ((u : Nat) : Int) < 10 := by omega
      have HD : Hid (decs u = decs (u / 10) ++ [dgt (u % 10)]) := decs_high (by omega)
      rw [unhide HD]
      have HC := hide (vDigit_any (u % 10) (by omega))
      have HI : Hid (∀ W, Calls Tryd.prog 40 #[.int .u64 ((u / 10 : Nat) : Int)] W fun e w' => e = .returned (.string ⟨(decs (u / 10)).toArray⟩) ∧ Below W.heap.size W w') := fun W => ih (u / 10) (by omega) W (by omega)
      have hdv : ((u : Nat) : Int) / 10 = ((u / 10 : Nat) : Int) := by omega
      have hmd : ((u : Nat) : Int) % 10 = ((u % 10 : Nat) : Int) := by omega
      have ad := fun W => str_add (P := Tryd.prog) W (decs (u / 10)) [dgt (u % 10)] (by have := decs_20 (u := u / 10) (by omega); simp; omega)
      generalize (⟨[dgt (u % 10)].toArray⟩ : ByteArray) = z1 at *
      generalize (⟨(decs (u / 10)).toArray⟩ : ByteArray) = z2 at *
      generalize (⟨(decs (u / 10) ++ [dgt (u % 10)]).toArray⟩ : ByteArray) = z3 at *
      have hqb : u / 10 < 18446744073709551616 := by omega
      have hrb : u % 10 < 10 := by omega
      generalize u / 10 = q at *
      generalize u % 10 = r at *
      clear ih HD
      go_enter Tryd.func40, Tryd.ntmps40
      go_wp2_with fail
      refine (unhide HI _).mono ?_
      rintro e w1 ⟨rfl, hb⟩
      have HB := hide hb
      clear hb
      go_wp2_with fail
      refine (unhide HC _).mono ?_
      rintro e w2 ⟨rfl, hb⟩
      have HB2 := hide ((unhide HB).trans (hb.mono (unhide HB).size))
      clear hb
      go_wp2
      go_ret
      exact ⟨rfl, unhide HB2⟩
end Go.Proofs.YtobgmbfoofkdeaaDoor

namespace Go.Proofs.YtobgmbfoofkdeaaDoor
open Go.RowKit

theorem escB_len (c : UInt8) : (escB c).length ≤ 3 := by unfold escB; split <;> simp
theorem esc_len (s : List UInt8) : (s.flatMap escB).length ≤ 3 * s.length := by
  induction s with
  | nil => simp
  | cons c s ih => rw [List.flatMap_cons, List.length_append, List.length_cons]; have := escB_len c; omega
theorem decI_len {n : Int} (h : InR n) : (decI n).length ≤ 21 := by
  unfold InR at h
  unfold decI
  split
  · have := decs_20 (u := (-n).toNat) (by omega); simp; omega
  · have := decs_20 (u := n.toNat) (by omega); omega
theorem VD.shownL_le {l : List VD} (h : ∀ x ∈ l, x.shown.length + 1 ≤ 400 * x.parts) : ∀ f, (VD.shownL f l).length ≤ 400 * VD.partsL l := by
  induction l with
  | nil => intro f; simp [VD.shownL]
  | cons x q ih2 =>
    intro f
    have a1 := h x (by simp)
    have a2 := ih2 (fun y hy => h y (by simp [hy])) false
    have a3 : (if f = true then ([] : List UInt8) else [44]).length ≤ 1 := by split <;> simp
    simp only [VD.shownL, VD.partsL, List.length_append]
    omega
theorem VD.shown_le (v : VD) : v.kinds = true → v.Fits → v.shown.length + 1 ≤ 400 * v.parts := by
  induction v using VD.induct with
  | h v ih =>
    intro hk hf
    rcases VD.kinds_cases hk with ⟨n, rfl⟩ | ⟨s, rfl, hs⟩ | ⟨l, rfl, hl, hkl⟩
    · have h1 := decI_len hf.n
      simp only [VD.shown, VD.parts, VD.partsL, VD.n] at *
      omega
    · have h1 := esc_len s
      simp only [VD.shown, VD.parts, VD.partsL, List.length_append, List.length_cons, List.length_nil] at *
      omega
    · have h2 := VD.shownL_le (l := l) (fun x hx => ih x hx (hkl x hx) (hf.mem hx)) true
      have e : VD.shown (.mk 2 0 [] l) = 91 :: (VD.shownL true l ++ [93]) := rfl
      rw [e]
      simp only [VD.parts, List.length_append, List.length_cons, List.length_nil] at *
      omega

/-- One byte of a text, shown. -/
theorem str_at (s : List UInt8) (j : Nat) (h : j < s.length) (h' : j < (⟨s.toArray⟩ : ByteArray).size) : (⟨s.toArray⟩ : ByteArray)[j]'h' = s[j]'h := by
  show s.toArray[j] = s[j]'h
  simp

set_option maxRecDepth 100000 in
set_option maxHeartbeats 4000000 in
theorem vRefShow_any (v : VD) : ∀ (B : Nat → Prop) (u : Value) (w : World), v.At B w u → v.parts ≤ 10000 → v.kinds = true → Calls Tryd.prog 20 #[u] w fun e w' => e = .returned (.string ⟨v.shown.toArray⟩) ∧ Below w.heap.size w w' := by
  induction v using VD.induct with
  | h v ih =>
    intro B u w hA hm hkd
    have hfit := hA.fits
    obtain ⟨a, c, rfl, hlc, hbox⟩ := hA.box
    have hbx := hbox 24
    obtain ⟨w1, hw1⟩ : ∃ w1, w1 = w.alloc (.cells #[.int .u8 ((v.k : Nat) : Int), .int .i64 v.n, .string ⟨v.s.toArray⟩, .slice a v.l.length c] 24) := ⟨_, rfl⟩
    have HB1 : Hid (Below w.heap.size w w1) := by rw [hw1]; exact (Below.refl _ w).alloc (Nat.le_refl _) _
    rw [← hw1] at hbx
    have HBX := hide hbx
    have HW1 := hide hw1
    have HM := hide hm
    have HIH := hide ih
    have HFT := hide hfit
    have HPM := hide v.parts_mk
    clear hA hbox hm ih hfit hw1
    have c0 := hbx.c0
    have c1 := hbx.c1
    have c2 := hbx.c2
    have c3 := hbx.c3
    clear hbx
    rcases VD.kinds_cases hkd with ⟨n, rfl⟩ | ⟨s, rfl, hs⟩ | ⟨l, rfl, hl, hkl⟩
    · simp only [VD.k, VD.n, VD.s, VD.l, List.length_nil] at HW1 c0 c1 c2 c3 ⊢
      rw [show ((0 : Nat) : Int) = 0 from rfl] at HW1 c0 ⊢
      have hrn : InR n := (unhide HFT).n
      obtain ⟨hr1, hr2⟩ := hrn
      have HSD : Hid (VD.shown (.mk 0 n [] []) = decI n) := rfl
      rw [unhide HSD]
      by_cases hneg : n < 0
      · have HDI : Hid (decI n = [45] ++ decs (-n).toNat) := by show _ = _; unfold decI; rw [if_pos hneg]; rfl
        rw [unhide HDI]
        obtain ⟨U, hU⟩ : ∃ U, U = (-n).toNat := ⟨_, rfl⟩
        have hUn : -n = ((U : Nat) : Int) := by omega
        rw [← hU]
        have HC := hide (fun W => vDigits_any U W (by omega))
        have ad := fun W => str_add (P := Tryd.prog) W [45] (decs U) (by have := decs_20 (u := U) (by omega); simp; omega)
        have hu1 : IntKind.u64.wrap (-(n + 1)) + 1 = ((U : Nat) : Int) := by rw [IntKind.wrap_u64]; omega
        generalize (⟨(decs U).toArray⟩ : ByteArray) = z1 at *
        generalize (⟨([45] ++ decs U).toArray⟩ : ByteArray) = z2 at *
        clear HDI hU HBX HSD
        go_enter Tryd.func20, Tryd.ntmps20
        go_upto_region 1 with fail
        rw [← unhide HW1]
        go_wp2_with fail
        rw [show -(n + 1) + 1 = ((U : Nat) : Int) by omega]
        refine (unhide HC _).mono ?_
        rintro e w2 ⟨rfl, hb⟩
        have HB2 := hide ((unhide HB1).trans (hb.mono (unhide HB1).size))
        clear hb
        go_wp2
        go_ret
        exact ⟨rfl, unhide HB2⟩
      · have HDI : Hid (decI n = decs n.toNat) := by show _ = _; unfold decI; rw [if_neg hneg]
        rw [unhide HDI]
        obtain ⟨U, hU⟩ : ∃ U : Nat, n = ((U : Nat) : Int) := ⟨n.toNat, by omega⟩
        subst hU
        rw [Int.toNat_natCast]
        have HC := hide (fun W => vDigits_any U W (by omega))
        generalize (⟨(decs U).toArray⟩ : ByteArray) = z1 at *
        clear HDI HBX HSD
        go_enter Tryd.func20, Tryd.ntmps20
        go_upto_region 1 with fail
        rw [← unhide HW1]
        go_wp2_with fail
        refine (unhide HC _).mono ?_
        rintro e w2 ⟨rfl, hb⟩
        have HB2 := hide ((unhide HB1).trans (hb.mono (unhide HB1).size))
        clear hb
        go_wp2
        go_ret
        exact ⟨rfl, unhide HB2⟩
    · have HSD : Hid (VD.shown (.mk 1 0 s []) = ([34] ++ s.flatMap escB) ++ [34]) := by show _ = _; rw [VD.shown]; simp
      rw [unhide HSD]
      simp only [VD.k, VD.n, VD.s, VD.l, List.length_nil] at HW1 c0 c1 c2 c3 HBX ⊢
      rw [show ((1 : Nat) : Int) = 1 from rfl] at HW1 c0 ⊢
      have hat := str_at s
      have hsz : (⟨s.toArray⟩ : ByteArray).size = s.length := by simp [ByteArray.size]
      obtain ⟨n, hn⟩ : ∃ n, n = s.length := ⟨_, rfl⟩
      rw [← hn] at hsz hs
      have HN := hide hn
      have HAT := hide hat
      have HF1 : Hid (∀ W, (Op.stringOp .add ⟨#[34]⟩ ⟨(s.flatMap escB).toArray⟩).run Tryd.prog W = .ok (.string ⟨([34] ++ s.flatMap escB).toArray⟩) W) := fun W => str_add (P := Tryd.prog) W [34] (s.flatMap escB) (by have := esc_len s; simp only [List.length_singleton]; omega)
      have HF2 : Hid (∀ W, (Op.stringOp .add ⟨([34] ++ s.flatMap escB).toArray⟩ ⟨#[34]⟩).run Tryd.prog W = .ok (.string ⟨(([34] ++ s.flatMap escB) ++ [34]).toArray⟩) W) := fun W => str_add (P := Tryd.prog) W ([34] ++ s.flatMap escB) [34] (by have := esc_len s; simp only [List.length_singleton, List.length_append]; omega)
      obtain ⟨z, hz⟩ : ∃ z : ByteArray, z = ⟨s.toArray⟩ := ⟨_, rfl⟩
      rw [← hz] at HW1 c2 ⊢ hsz
      have HZ := hide hz
      clear hz hat hn HBX HSD
      go_enter Tryd.func20, Tryd.ntmps20
      go_upto_region 1 with fail
      rw [← unhide HW1]
      clear HW1
      go_wp2
      go_loopw [3, 4] (fun t k W => ∃ j : Nat, j ≤ n ∧ k = .int .i64 ((j : Nat) : Int) ∧ t = .string ⟨((s.take j).flatMap escB).toArray⟩ ∧ Below w1.heap.size w1 W) (fun _ k _ => n - (intOf k).toNat)
      case atStart => exact ⟨0, by omega, rfl, rfl, Below.refl _ _⟩
      case round =>
        obtain ⟨j, hj, rfl, rfl, hb⟩ := hrel
        have HB := hide hb
        have hk : ∀ {p : Addr} {x : Value}, w1.cell? p = some x → wr.cell? p = some x := fun hx => (hb.cell (World.block_lt_of_cell? _ _ hx)).trans hx
        have d2 := hk c2
        by_cases hlt : j < n
        · have hji : ((j : Nat) : Int) < ((n : Nat) : Int) := by omega
          have hjz : j < z.size := by omega
          have hjl : j < s.length := by have := unhide HN; omega
          obtain ⟨y, hy⟩ : ∃ y, y = z[j]'hjz := ⟨_, rfl⟩
          have hys : y = s[j]'hjl := by
            rw [hy]
            have := unhide HAT j hjl (by simp [ByteArray.size]; exact hjl)
            have hz := unhide HZ
            subst hz
            exact this
          have HTS : Hid ((s.take (j + 1)).flatMap escB = (s.take j).flatMap escB ++ escB y) := by
            show _ = _
            rw [List.take_succ_eq_append_getElem hjl, List.flatMap_append, hys]
            simp
          have HLN : Hid (((s.take j).flatMap escB).length ≤ 300) := by
            show _ ≤ _
            have := esc_len (s.take j)
            rw [List.length_take] at this
            omega
          have hix : ∀ W, (Instr.index 9 (.string z) (.int .i64 ((j : Nat) : Int))).run Tryd.prog W = .ok (.int .u8 ((y.toNat : Nat) : Int)) W := fun W => by
            rw [run_index_string W 9 z .i64 _ Tryd.underlying9, dif_pos ⟨by omega, by omega⟩, hy]
            rfl
          have hyb := y.toNat_lt
          generalize (s.take j).flatMap escB = S at *
          clear hk hb hys hy hjz
          by_cases hesc : y.toNat < 33 ∨ 126 < y.toNat ∨ y.toNat = 34 ∨ y.toNat = 37
          · have HEB : Hid (escB y = [37, dgt (y.toNat / 16), dgt (y.toNat % 16)]) := by show _ = _; unfold escB; rw [if_pos hesc]
            have HTD : Hid (S ++ escB y = ((S ++ [37]) ++ [dgt (y.toNat / 16)]) ++ [dgt (y.toNat % 16)]) := by show _ = _; rw [unhide HEB]; simp
            rw [unhide HTD] at HTS
            have ad1 := fun W => str_add (P := Tryd.prog) W S [37] (by have := unhide HLN; simp; omega)
            have ad2 := fun W => str_add (P := Tryd.prog) W (S ++ [37]) [dgt (y.toNat / 16)] (by have := unhide HLN; simp; omega)
            have ad3 := fun W => str_add (P := Tryd.prog) W ((S ++ [37]) ++ [dgt (y.toNat / 16)]) [dgt (y.toNat % 16)] (by have := unhide HLN; simp; omega)
            have HC1 := hide (vDigit_any (y.toNat / 16) (by omega))
            have HC2 := hide (vDigit_any (y.toNat % 16) (by omega))
            have e1 : ((y.toNat : Nat) : Int) / 16 = ((y.toNat / 16 : Nat) : Int) := by omega
            have e2 : ((y.toNat : Nat) : Int) % 16 = ((y.toNat % 16 : Nat) : Int) := by omega
            go_upto_region 11 with fail
            go_cut [57] (fun t wx => t = .bool true ∧ wx = wr)
            case first =>
              clear ad1 ad2 ad3 e1 e2 hix
              by_cases q1 : y.toNat < 33
              · have p1 : ((y.toNat : Nat) : Int) < 33 := by omega
                go_wp2_with fail
                go_meet
                exact ⟨rfl, rfl⟩
              have p1 : ¬ ((y.toNat : Nat) : Int) < 33 := by omega
              by_cases q2 : 126 < y.toNat
              · have p2 : ((y.toNat : Nat) : Int) > 126 := by omega
                go_wp2_with fail
                go_meet
                exact ⟨rfl, rfl⟩
              have p2 : ¬ ((y.toNat : Nat) : Int) > 126 := by omega
              generalize y.toNat = Y at *
              by_cases q3 : Y = 34
              · have p3 : (((Y : Nat) : Int) == 34) = true := by rw [beq_iff_eq]; omega
                clear q3 hesc
                go_wp2_with fail
                go_meet
                exact ⟨rfl, rfl⟩
              have p3 : (((Y : Nat) : Int) == 34) = false := by rw [beq_eq_false_iff_ne]; omega
              have q4 : Y = 37 := by omega
              have p4 : (((Y : Nat) : Int) == 37) = true := by rw [beq_iff_eq]; omega
              clear q4 q3 hesc
              go_wp2_with fail
              go_meet
              exact ⟨rfl, rfl⟩
            obtain ⟨rfl, hw⟩ := hcut
            rw [hw]
            clear hw
            have hyq : y.toNat / 16 < 16 := by omega
            have hyr : y.toNat % 16 < 16 := by omega
            generalize y.toNat / 16 = Yq at *
            generalize y.toNat % 16 = Yr at *
            generalize hg3 : (⟨(((S ++ [37]) ++ [dgt Yq]) ++ [dgt Yr]).toArray⟩ : ByteArray) = t3 at *
            generalize (⟨((S ++ [37]) ++ [dgt Yq]).toArray⟩ : ByteArray) = t2 at *
            generalize (⟨(S ++ [37]).toArray⟩ : ByteArray) = t1 at *
            generalize (⟨S.toArray⟩ : ByteArray) = t0 at *
            generalize (⟨[dgt Yq].toArray⟩ : ByteArray) = x1 at *
            generalize (⟨[dgt Yr].toArray⟩ : ByteArray) = x2 at *
            have HG3 := hide hg3
            clear hg3
            go_upto_region 12 with fail
            go_wp2_with fail
            refine (unhide HC1 _).mono ?_
            rintro e w3 ⟨rfl, hb3⟩
            have HB3 := hide ((unhide HB).trans (hb3.mono (unhide HB).size))
            clear hb3
            go_wp2_with fail
            refine (unhide HC2 _).mono ?_
            rintro e w4 ⟨rfl, hb4⟩
            have HB4 := hide ((unhide HB3).trans (hb4.mono (unhide HB3).size))
            clear hb4
            go_wp2_with fail
            exact ⟨⟨j + 1, by omega, by go_num, by rw [unhide HTS, unhide HG3], unhide HB4⟩, by simp [intOf]; omega⟩
          · have HEB : Hid (escB y = [y]) := by show _ = _; unfold escB; rw [if_neg hesc]
            rw [unhide HEB] at HTS
            have ad1 := fun W => str_add (P := Tryd.prog) W S [y] (by have := unhide HLN; simp; omega)
            have cv := run_convert_bytes (P := Tryd.prog) (wr.alloc (.cells #[.int .u8 ((y.toNat : Nat) : Int)] 5)) 25 9 5 Tryd.underlying25 Tryd.underlying5 Tryd.underlying9 _ _ (bytes_one wr y)
            have HB3 : Hid (Below w1.heap.size w1 (wr.alloc (.cells #[.int .u8 ((y.toNat : Nat) : Int)] 5))) := (unhide HB).alloc (unhide HB).size _
            have p1 : ¬ ((y.toNat : Nat) : Int) < 33 := by omega
            have p2 : ¬ ((y.toNat : Nat) : Int) > 126 := by omega
            have p3 : (((y.toNat : Nat) : Int) == 34) = false := by rw [beq_eq_false_iff_ne]; omega
            have p4 : (((y.toNat : Nat) : Int) == 37) = false := by rw [beq_eq_false_iff_ne]; omega
            clear hesc
            generalize hg3 : (⟨(S ++ [y]).toArray⟩ : ByteArray) = t3 at *
            generalize (⟨S.toArray⟩ : ByteArray) = t0 at *
            generalize (⟨[y].toArray⟩ : ByteArray) = x1 at *
            have HG3 := hide hg3
            clear hg3
            go_wp2_with fail
            exact ⟨⟨j + 1, by omega, by go_num, by rw [unhide HTS, unhide HG3], unhide HB3⟩, by simp [intOf]; omega⟩
        · have e : j = n := by omega
          have hji : ¬ ((j : Nat) : Int) < ((n : Nat) : Int) := by omega
          have HTK : Hid (s.take j = s) := List.take_of_length_le (by have := unhide HN; omega)
          have HFB := hide ((unhide HB1).trans ((unhide HB).mono (unhide HB1).size))
          rw [unhide HTK]
          have f1 := unhide HF1
          have f2 := unhide HF2
          generalize hg3 : (⟨(([34] ++ s.flatMap escB) ++ [34]).toArray⟩ : ByteArray) = t3 at *
          generalize (⟨([34] ++ s.flatMap escB).toArray⟩ : ByteArray) = t2 at *
          generalize (⟨(s.flatMap escB).toArray⟩ : ByteArray) = t1 at *
          have HG3 := hide hg3
          clear hg3
          clear e hk hb
          go_wp2
          go_ret
          exact ⟨by exact congrArg (fun q => Ending.returned (Value.string q)) (unhide HG3).symm, unhide HFB⟩
    · have HSD : Hid (VD.shown (.mk 2 0 [] l) = ([91] ++ VD.shownL true l) ++ [93]) := by
        show _ = _
        have e : VD.shown (.mk 2 0 [] l) = 91 :: (VD.shownL true l ++ [93]) := rfl
        rw [e]; simp
      rw [unhide HSD]
      have HEL := hide (unhide HBX).el
      have HSL : Hid (∀ j, (VD.shownL true (l.take j)).length ≤ 400 * VD.partsL l) := fun j => by
        have h1 := VD.shownL_le (l := l.take j) (fun x hx => VD.shown_le x (hkl x (List.mem_of_mem_take hx)) ((unhide HFT).mem (List.mem_of_mem_take hx))) true
        have h2 := VD.partsL_take l j
        omega
      simp only [VD.k, VD.n, VD.s, VD.l] at HW1 c0 c1 c2 c3 HEL HPM HIH ⊢
      rw [show ((2 : Nat) : Int) = 2 from rfl] at HW1 c0 ⊢
      have HPL : Hid (400 * VD.partsL l ≤ 4000000) := by show _ ≤ _; have := unhide HM; have h5 := unhide HPM; simp only [VD.parts] at *; omega
      have HF1 : Hid (∀ W, (Op.stringOp .add ⟨#[91]⟩ ⟨(VD.shownL true l).toArray⟩).run Tryd.prog W = .ok (.string ⟨([91] ++ VD.shownL true l).toArray⟩) W) := fun W => str_add (P := Tryd.prog) W [91] (VD.shownL true l) (by have h1 := unhide HSL l.length; rw [List.take_length] at h1; have := unhide HPL; simp only [List.length_singleton]; omega)
      have HF2 : Hid (∀ W, (Op.stringOp .add ⟨([91] ++ VD.shownL true l).toArray⟩ ⟨#[93]⟩).run Tryd.prog W = .ok (.string ⟨(([91] ++ VD.shownL true l) ++ [93]).toArray⟩) W) := fun W => str_add (P := Tryd.prog) W ([91] ++ VD.shownL true l) [93] (by have h1 := unhide HSL l.length; rw [List.take_length] at h1; have := unhide HPL; simp only [List.length_singleton, List.length_append]; omega)
      have HKL := hide hkl
      obtain ⟨n, hn⟩ : ∃ n, n = l.length := ⟨_, rfl⟩
      rw [← hn] at HW1 c3 hl ⊢
      have HN := hide hn
      clear hn hkl HSD HBX
      go_enter Tryd.func20, Tryd.ntmps20
      go_upto_region 1 with fail
      rw [← unhide HW1]
      clear HW1
      go_wp2
      go_loopw [3, 6] (fun t k W => ∃ j : Nat, j ≤ n ∧ k = .int .i64 ((j : Nat) : Int) ∧ t = .string ⟨(VD.shownL true (l.take j)).toArray⟩ ∧ Below w1.heap.size w1 W) (fun _ k _ => n - (intOf k).toNat)
      case atStart => exact ⟨0, by omega, rfl, rfl, Below.refl _ _⟩
      case round =>
        obtain ⟨j, hj, rfl, rfl, hb⟩ := hrel
        have HB := hide hb
        have hk : ∀ {p : Addr} {x : Value}, w1.cell? p = some x → wr.cell? p = some x := fun hx => (hb.cell (World.block_lt_of_cell? _ _ hx)).trans hx
        have d3 := hk c3
        by_cases hlt : j < n
        · have hji : ((j : Nat) : Int) < ((n : Nat) : Int) := by omega
          have hjl : j < l.length := by have := unhide HN; omega
          obtain ⟨b, o, e0, e1, e2, e3, rfl, _, x0, x1, x2, x3, he⟩ := unhide HEL j hjl
          have y0 := hk x0
          have y1 := hk x1
          have y2 := hk x2
          have y3 := hk x3
          have hmem : l[j] ∈ l := List.getElem_mem hjl
          have hpl := VD.parts_mem hmem
          have HTS : Hid (VD.shownL true (l.take (j + 1)) = VD.shownL true (l.take j) ++ ((if (l.take j).isEmpty then [] else [44]) ++ (l[j]).shown)) := by
            show _ = _
            rw [List.take_succ_eq_append_getElem hjl, VD.shownL_snoc]
            simp
          have HLE : Hid ((VD.shownL true (l.take j)).length ≤ 4000000 ∧ (l[j]).shown.length ≤ 4000000) := by
            show _ ∧ _
            have h1 := unhide HSL j
            have h2 := VD.shown_le _ (unhide HKL _ hmem) ((unhide HFT).mem hmem)
            have := unhide HPL
            omega
          have HC : Hid (Calls Tryd.prog 20 #[.agg #[e0, e1, e2, e3]] wr fun e w' => e = .returned (.string ⟨(l[j]).shown.toArray⟩) ∧ Below wr.heap.size wr w') := unhide HIH _ hmem B _ wr (he.later hb) (by have := unhide HM; have h5 := unhide HPM; simp only [VD.parts] at *; omega) (unhide HKL _ hmem)
          have hte : (l.take j).isEmpty = decide (j = 0) := by
            rw [Bool.eq_iff_iff, List.isEmpty_iff, decide_eq_true_iff, List.take_eq_nil_iff]
            constructor
            · rintro (h | h)
              · exact h
              · rw [h] at hjl; simp at hjl
            · exact .inl
          rw [hte] at HTS
          generalize (l[j]).shown = bj at *
          generalize VD.shownL true (l.take j) = S at *
          clear he hpl hmem x0 x1 x2 x3 hk c0 c1 c2 c3 hte hb
          by_cases hj0 : j = 0
          · have hjg : ¬ ((j : Nat) : Int) > 0 := by omega
            have hjd : decide (((j : Nat) : Int) > 0) = false := decide_eq_false hjg
            have hjd2 : decide (0 < j) = false := decide_eq_false (by omega)
            rw [decide_eq_true hj0] at HTS
            have HTS2 : Hid (VD.shownL true (l.take (j + 1)) = S ++ bj) := by show _ = _; rw [unhide HTS]; rfl
            clear HTS
            have ad1 := fun W => str_add (P := Tryd.prog) W S bj (by have := unhide HLE; omega)
            generalize hg3 : (⟨(S ++ bj).toArray⟩ : ByteArray) = t3 at *
            generalize (⟨S.toArray⟩ : ByteArray) = t0 at *
            generalize (⟨bj.toArray⟩ : ByteArray) = x1 at *
            have HG3 := hide hg3
            clear hg3 hj0 hjg
            go_wp2_with fail
            refine (unhide HC).mono ?_
            rintro e w5 ⟨rfl, hb5⟩
            have HB5 := hide ((unhide HB).trans (hb5.mono (unhide HB).size))
            clear hb5
            go_wp2_with fail
            exact ⟨⟨j + 1, by omega, by go_num, by rw [unhide HTS2, unhide HG3], unhide HB5⟩, by simp [intOf]; omega⟩
          · have hjg : ((j : Nat) : Int) > 0 := by omega
            have hjd : decide (((j : Nat) : Int) > 0) = true := decide_eq_true hjg
            have hjd2 : decide (0 < j) = true := decide_eq_true (by omega)
            rw [decide_eq_false hj0] at HTS
            have HTS2 : Hid (VD.shownL true (l.take (j + 1)) = (S ++ [44]) ++ bj) := by show _ = _; rw [unhide HTS]; simp
            clear HTS
            have ad1 := fun W => str_add (P := Tryd.prog) W S [44] (by have := unhide HLE; simp; omega)
            have ad2 := fun W => str_add (P := Tryd.prog) W (S ++ [44]) bj (by have := unhide HLE; simp; omega)
            generalize hg3 : (⟨((S ++ [44]) ++ bj).toArray⟩ : ByteArray) = t3 at *
            generalize (⟨(S ++ [44]).toArray⟩ : ByteArray) = t2 at *
            generalize (⟨S.toArray⟩ : ByteArray) = t0 at *
            generalize (⟨bj.toArray⟩ : ByteArray) = x1 at *
            have HG3 := hide hg3
            clear hg3 hj0
            go_wp2_with fail
            refine (unhide HC).mono ?_
            rintro e w5 ⟨rfl, hb5⟩
            have HB5 := hide ((unhide HB).trans (hb5.mono (unhide HB).size))
            clear hb5
            go_wp2_with fail
            exact ⟨⟨j + 1, by omega, by go_num, by rw [unhide HTS2, unhide HG3], unhide HB5⟩, by simp [intOf]; omega⟩
        · have e : j = n := by omega
          have hji : ¬ ((j : Nat) : Int) < ((n : Nat) : Int) := by omega
          have HTK : Hid (l.take j = l) := List.take_of_length_le (by have := unhide HN; omega)
          have HFB := hide ((unhide HB1).trans ((unhide HB).mono (unhide HB1).size))
          rw [unhide HTK]
          have f1 := unhide HF1
          have f2 := unhide HF2
          generalize hg3 : (⟨(([91] ++ VD.shownL true l) ++ [93]).toArray⟩ : ByteArray) = t3 at *
          generalize (⟨([91] ++ VD.shownL true l).toArray⟩ : ByteArray) = t2 at *
          generalize (⟨(VD.shownL true l).toArray⟩ : ByteArray) = t1 at *
          have HG3 := hide hg3
          clear hg3 e hk hb
          go_wp2
          go_ret
          exact ⟨by exact congrArg (fun q => Ending.returned (Value.string q)) (unhide HG3).symm, unhide HFB⟩
end Go.Proofs.YtobgmbfoofkdeaaDoor
