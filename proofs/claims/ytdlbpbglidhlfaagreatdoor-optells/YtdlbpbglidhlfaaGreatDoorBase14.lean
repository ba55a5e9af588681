/- ValImplB2, OpSaid, FragSame: our own definitions and contracts; no statement of the seat is proved here. -/
import Derived.Test.YtdlbpbglidhlfaaGreatDoorBase13
import Derived.Test.YtdlbpbglidhlfaaGreatDoorBase08
import Derived.Test.YtdlbpbglidhlfaaGreatDoorBase11
import Derived.Test.YtdlbpbglidhlfaaGreatDoorBase03
import Derived.Test.YtdlbpbglidhlfaaGreatDoorBase10
namespace Go.Proofs.YtdlbpbglidhlfaaGreatDoor
open Go.RowKit

theorem VD.right_bytes_le {v : VD} (h : v.right = true) (hf : v.Fits) : v.bytes.length ≤ 26000 := by
  have h1 := VD.bytes_le v (right_parts h).1 hf
  have := (right_parts h).2.2
  omega

set_option maxRecDepth 100000 in
set_option maxHeartbeats 2000000 in
theorem vBytes_any (v : VD) (B : Nat → Prop) (u : Value) (w : World) (hA : v.At B w u) : Calls Tryz.prog 69 #[u] w fun e w' => (v.right = true ∧ ∃ r, e = .returned (.tuple #[r, .int .i64 0]) ∧ Own w r v.bytes w') ∨ (v.right = false ∧ e = .returned (.tuple #[.slice none 0 0, .int .i64 2]) ∧ Below w.heap.size w w') := by
  have HR0 : Hid (∀ W, Below w.heap.size w W → Calls Tryz.prog 48 #[u] W fun e w' => e = .returned (.bool v.right) ∧ Below W.heap.size W w') := fun W hW => right_any v B u W (hA.later hW)
  have HS0 : Hid (v.right = true → ∀ W, Below w.heap.size w W → Calls Tryz.prog 90 #[.slice none 0 0, u] W fun e w' => ∃ r', e = .returned r' ∧ Own W r' v.bytes w') := fun hr W hW => (said_any v B u (.slice none 0 0) [] W W (hA.later hW) (Own.start W) (right_parts hr).1 (by have := VD.right_bytes_le hr hA.fits; simp; omega)).mono fun e w' h => by simpa using h
  obtain ⟨a, c, rfl, -, -⟩ := hA.box
  obtain ⟨n, hn⟩ : ∃ n, n = v.l.length := ⟨_, rfl⟩
  obtain ⟨K, hK⟩ : ∃ K, K = v.k := ⟨_, rfl⟩
  obtain ⟨N, hN⟩ : ∃ N, N = v.n := ⟨_, rfl⟩
  obtain ⟨z, hz⟩ : ∃ z : ByteArray, z = ⟨v.s.toArray⟩ := ⟨_, rfl⟩
  rw [← hn, ← hK, ← hN, ← hz] at HR0 HS0 ⊢
  obtain ⟨W1, hW1⟩ : ∃ W1, W1 = w.alloc (.cells #[.int .u8 ((K : Nat) : Int), .int .i64 N, .string z, .slice a n c] 24) := ⟨_, rfl⟩
  have hb1 : Below w.heap.size w W1 := by rw [hW1]; exact (Below.refl _ w).alloc (Nat.le_refl _) _
  have hr1 : W1.heap[w.heap.size]? = some (.cells #[.int .u8 ((K : Nat) : Int), .int .i64 N, .string z, .slice a n c] 24 (0, 0)) := by rw [hW1]; exact heap_alloc_new w _
  obtain ⟨⟨c0, c1, c2, c3⟩, -⟩ := cells4 hr1
  have HW1 := hide hW1
  have HB1 := hide hb1
  have HR1 := hide hr1
  clear hA hn hK hN hz hW1 hb1 hr1
  go_enter Tryz.func69, Tryz.ntmps69
  go_upto_region 1 with fail
  rw [← unhide HW1]
  clear HW1
  go_wp2_with fail
  refine (unhide HR0 _ (unhide HB1)).mono ?_
  rintro e W2 ⟨rfl, hb2⟩
  have hr2 := (hb2.block _ (lt_rowV (unhide HR1))).trans (unhide HR1)
  have HB2 := hide ((unhide HB1).trans (hb2.mono (unhide HB1).size))
  clear hb2 c0 c1 c2 c3
  obtain ⟨⟨c0, c1, c2, c3⟩, -⟩ := cells4 hr2
  clear hr2
  obtain ⟨rt, hrt⟩ : ∃ rt, rt = v.right := ⟨_, rfl⟩
  rw [← hrt]
  have HRT := hide hrt
  clear hrt
  cases rt with
  | false =>
    go_wp2_with fail
    go_ret2
    exact .inr ⟨(unhide HRT).symm, rfl, unhide HB2⟩
  | true =>
    go_wp2_with fail
    refine (unhide HS0 (unhide HRT).symm _ (unhide HB2)).mono ?_
    rintro e W3 ⟨r3, rfl, hO⟩
    have HO := hide (hO.lift (unhide HB2))
    clear hO c0 c1 c2 c3
    go_wp2_with fail
    go_ret2
    exact .inl ⟨(unhide HRT).symm, _, rfl, unhide HO⟩

set_option maxRecDepth 100000 in
set_option maxHeartbeats 2000000 in
theorem vPut_any (v : VD) (B : Nat → Prop) (u : Value) (pa : Option Addr) (pn pc : Nat) (bs : List UInt8) (w : World) (hA : v.At B w u) (hr : v.right = true) (hp : Bytes w (.slice pa pn pc) bs) (hl : bs.length ≤ 1000000) : Calls Tryz.prog 45 #[.slice pa pn pc, u] w fun e w' => ∃ r, e = .returned r ∧ Own w r (bs ++ v.bytes) w' := by
  have HB0 : Hid (∀ W, Below w.heap.size w W → Calls Tryz.prog 69 #[u] W fun e w' => ∃ a c, e = .returned (.tuple #[.slice a v.bytes.length c, .int .i64 0]) ∧ Own W (.slice a v.bytes.length c) v.bytes w') := fun W hW => (vBytes_any v B u W (hA.later hW)).mono fun e w' h => by
    rcases h with ⟨_, r, rfl, hO⟩ | ⟨h, _⟩
    · obtain ⟨a, c, rfl, _⟩ := hO.fresh.1.1.form
      exact ⟨a, c, rfl, hO⟩
    · rw [hr] at h; cases h
  have HLE := hide (VD.right_bytes_le hr hA.fits)
  have HP := hide hp
  have HL := hide hl
  obtain ⟨hbl, -⟩ := bytes_len hp
  have HBL := hide hbl
  obtain ⟨a, c, rfl, -, -⟩ := hA.box
  obtain ⟨n, hn⟩ : ∃ n, n = v.l.length := ⟨_, rfl⟩
  obtain ⟨K, hK⟩ : ∃ K, K = v.k := ⟨_, rfl⟩
  obtain ⟨N, hN⟩ : ∃ N, N = v.n := ⟨_, rfl⟩
  obtain ⟨z, hz⟩ : ∃ z : ByteArray, z = ⟨v.s.toArray⟩ := ⟨_, rfl⟩
  rw [← hn, ← hK, ← hN, ← hz] at HB0 ⊢
  generalize v.bytes = vb at *
  obtain ⟨vn, hvn⟩ : ∃ vn, vn = vb.length := ⟨_, rfl⟩
  rw [← hvn] at HB0
  have HVN := hide hvn
  obtain ⟨W1, hW1⟩ : ∃ W1, W1 = w.alloc (.cells #[.int .u8 ((K : Nat) : Int), .int .i64 N, .string z, .slice a n c] 24) := ⟨_, rfl⟩
  have hb1 : Below w.heap.size w W1 := by rw [hW1]; exact (Below.refl _ w).alloc (Nat.le_refl _) _
  have hr1 : W1.heap[w.heap.size]? = some (.cells #[.int .u8 ((K : Nat) : Int), .int .i64 N, .string z, .slice a n c] 24 (0, 0)) := by rw [hW1]; exact heap_alloc_new w _
  obtain ⟨⟨c0, c1, c2, c3⟩, -⟩ := cells4 hr1
  have HW1 := hide hW1
  have HB1 := hide hb1
  clear hA hn hK hN hz hW1 hb1 hr1 hr hp hl hbl hvn
  go_enter Tryz.func45, Tryz.ntmps45
  go_upto_region 1 with fail
  rw [← unhide HW1]
  clear HW1
  go_wp2_with fail
  refine (unhide HB0 _ (unhide HB1)).mono ?_
  rintro e W2 ⟨ra, rc, rfl, hO⟩
  obtain ⟨W3, hW3⟩ : ∃ W3, W3 = W2.alloc (.cells #[.slice pa pn pc, .slice ra vn rc] 28) := ⟨_, rfl⟩
  have hb3 : Below W2.heap.size W2 W3 := by rw [hW3]; exact (Below.refl _ _).alloc (Nat.le_refl _) _
  have hr3 : W3.heap[W2.heap.size]? = some (.cells #[.slice pa pn pc, .slice ra vn rc] 28 (0, 0)) := by rw [hW3]; exact heap_alloc_new _ _
  have hb2 : Below w.heap.size w W2 := (unhide HB1).trans (hO.bb.mono (unhide HB1).size)
  have HB3 : Hid (Below w.heap.size w W3) := hb2.trans (hb3.mono hb2.size)
  have HRB : Hid (RowsB W3 W2.heap.size [bs, vb]) := fun i x hx => by
    match i, hx with
    | 0, hx =>
      have hx : bs = x := by simpa using hx
      subst hx
      exact ⟨pa, pc, by rw [unhide HBL]; exact cell_of_row _ _ 0 _ _ _ hr3, by rw [unhide HBL]; exact (unhide HP).kept fun k _ hk => (unhide HB3).block k hk⟩
    | 1, hx =>
      have hx : vb = x := by simpa using hx
      subst hx
      exact ⟨ra, rc, by rw [← unhide HVN]; exact cell_of_row _ _ 1 _ _ _ hr3, by rw [← unhide HVN]; exact (hO.later hb3).fresh.1.1⟩
  have HC : Hid (Calls Tryz.prog 70 #[.slice (some ⟨W2.heap.size, 0, none⟩) 2 2] W3 fun e w' => ∃ v, e = .returned v ∧ Own W3 v (bs ++ vb) w') := (concatV_any W2.heap.size 2 [bs, vb] W3 (unhide HRB) (by unfold flatLen; have := unhide HL; have := unhide HLE; simp; omega) (by simp)).mono fun e w' h => by simpa using h
  have HW3 := hide hW3
  clear hO hW3 hb3 hr3 hb2 c0 c1 c2 c3 HRB
  go_wp2_with fail
  rw [← unhide HW3]
  refine (unhide HC).mono ?_
  rintro e W4 ⟨r4, rfl, hO4⟩
  have HO4 := hide (hO4.lift (unhide HB3))
  clear hO4
  go_wp2_with fail
  go_ret
  exact ⟨_, rfl, unhide HO4⟩
end Go.Proofs.YtdlbpbglidhlfaaGreatDoor

namespace Go.Proofs.YtdlbpbglidhlfaaGreatDoor
open Go.RowKit

theorem OD.right_len {o : OD} (h : o.right = true) : o.id.length ≤ 400 := by
  rcases OD.right_cases h with ⟨_, _, _, _, h, _⟩ | ⟨_, h, _⟩ | ⟨_, h, _⟩ | ⟨_, h, _⟩
  · rw [h]; simp
  · exact (idB_len h).2
  · exact (idB_len h).2
  · exact (idB_len h).2
theorem textB_le4 {s : List UInt8} (h : s.length ≤ 400) : (textB s).length ≤ 410 := by
  have := numB_ten (n := ((s.length : Nat) : Int)) (by unfold InR; omega)
  unfold textB
  rw [List.length_append]
  omega

set_option maxRecDepth 100000 in
set_option maxHeartbeats 8000000 in
theorem oSaid_any (o : OD) (B : Nat → Prop) (u : Value) (w : World) (h : o.At B w u) (hr : o.right = true) (hT : OTab w) : Calls Tryz.prog 23 #[u] w fun e w' => ∃ r, e = .returned r ∧ Own w r o.bytes w' := by
  obtain ⟨L, s, t, K, N, z, a, m, c, fa, fn, fc, q, rfl, hp⟩ := h.form
  unfold OD.form9
  obtain ⟨W1, hW1⟩ : ∃ W1, W1 = w.alloc (.cells #[.int .u8 ((L : Nat) : Int), .string s, .int .i64 t, .int .u8 ((K : Nat) : Int), .int .i64 N, .string z, .slice a m c, .slice fa fn fc, .int .i64 q] 27) := ⟨_, rfl⟩
  have hb1 : Below w.heap.size w W1 := by rw [hW1]; exact (Below.refl _ _).alloc (Nat.le_refl _) _
  have hg1 : W1.heap[w.heap.size]? = some (.cells #[.int .u8 ((L : Nat) : Int), .string s, .int .i64 t, .int .u8 ((K : Nat) : Int), .int .i64 N, .string z, .slice a m c, .slice fa fn fc, .int .i64 q] 27 (0, 0)) := by rw [hW1]; exact heap_alloc_new _ _
  have HKS : Hid (∀ X, Below W1.heap.size W1 X → X.cell? ⟨w.heap.size, 0, none⟩ = some (.int .u8 ((L : Nat) : Int)) ∧ X.cell? ⟨w.heap.size, 1, none⟩ = some (.string s) ∧ X.cell? ⟨w.heap.size, 2, none⟩ = some (.int .i64 t) ∧ X.cell? ⟨w.heap.size, 3, none⟩ = some (.int .u8 ((K : Nat) : Int)) ∧ X.cell? ⟨w.heap.size, 4, none⟩ = some (.int .i64 N) ∧ X.cell? ⟨w.heap.size, 5, none⟩ = some (.string z) ∧ X.cell? ⟨w.heap.size, 6, none⟩ = some (.slice a m c) ∧ X.cell? ⟨w.heap.size, 7, none⟩ = some (.slice fa fn fc) ∧ X.cell? ⟨w.heap.size, 8, none⟩ = some (.int .i64 q)) := fun X hX => cells9 ((hX.block _ (Array.getElem?_eq_some_iff.1 hg1).1).trans hg1)
  have HPT : Hid (∀ X, Below W1.heap.size W1 X → OD.Parts B X o L s t K N z a m c fa fn fc q) := fun X hX => hp.later (hb1.trans (hX.mono hb1.size))
  have HB1 := hide hb1
  have HLR : Hid (InR ((L : Nat) : Int)) := by show InR _; rw [hp.wh]; have := hp.fits.wh; unfold InR; omega
  have HTR : Hid (InR t) := by show InR _; rw [hp.tk]; exact hp.fits.tk
  have HQR : Hid (InR q) := by show InR _; rw [hp.qt]; exact hp.fits.qt
  have HIL := hide (OD.right_len hr)
  have HIB : Hid ((textB o.id).length ≤ 410) := textB_le4 (OD.right_len hr)
  have HTB : Hid ((numB t).length ≤ 10) := numB_ten (unhide HTR)
  have HQB : Hid ((numB q).length ≤ 10) := numB_ten (unhide HQR)
  have HSI := hide hp.id
  have HTK := hide hp.tk
  have HQT := hide hp.qt
  have HWH := hide hp.wh
  have hL0 : ((L : Nat) : Int) ≤ 255 := by rw [hp.wh]; have := hp.fits.wh; omega
  have HOF0 : Hid (Calls Tryz.prog 24 #[.int .u8 ((L : Nat) : Int)] W1 fun e w' => e = .returned (.int .u8 ((OD.has L : Nat) : Int)) ∧ w' = W1) := of_any L (by omega) W1 (hT.later hb1)
  obtain ⟨c0, c1, c2, c3, c4, c5, c6, c7, c8⟩ := cells9 hg1
  have hcs := OD.right_cases hr
  rw [← hp.wh] at hcs
  obtain rfl := hp.id
  clear hg1 hb1 h hr hT HSI hp

  rcases hcs with ⟨hw, hfr, -⟩ | ⟨hw, -⟩ | ⟨hw, -, -, hvr, hfr, -⟩ | ⟨hw, -⟩
  · have HOF : Hid (Calls Tryz.prog 24 #[.int .u8 ((L : Nat) : Int)] W1 fun e w' => e = .returned (.int .u8 24) ∧ w' = W1) := by have h := unhide HOF0; rw [show OD.has L = 24 by rw [hw]; rfl] at h; exact h
    have HHW := hide hw
    have HFR := hide hfr
    have HFB : Hid ((bytesF o.frag).length ≤ 31000) := bytesF_le hfr
    clear hfr
    clear hw HOF0
    go_enter Tryz.func23, Tryz.ntmps23
    go_upto_region 1 with fail
    rw [← hW1]
    clear hW1
    go_wp2_with fail
    refine (unhide HOF).mono ?_
    rintro e w6 ⟨rfl, hw⟩
    rw [hw]
    clear hw w6
    go_wp2_with fail
    refine (wNum_any _ [] ((L : Nat) : Int) (unhide HLR) W1 (Own.start W1).fresh.1.1 (by simp)).mono ?_
    rintro e w2 ⟨r2, rfl, hO⟩
    have HB := hide hO.bb
    have HO : Hid (Own w r2 (numB ((L : Nat) : Int)) w2) := by
      have h := hO.lift (unhide HB1)
      rwa [List.nil_append] at h
    obtain ⟨pr, hpr⟩ : ∃ pr, pr = numB ((L : Nat) : Int) := ⟨_, rfl⟩
    rw [← hpr] at HO
    have HLN : Hid (pr.length ≤ 10) := by show _ ≤ _; rw [hpr]; exact numB_ten (unhide HLR)
    have HEQ := hide hpr
    obtain ⟨d0, d1, d2, d3, d4, d5, d6, d7, d8⟩ := unhide HKS _ (unhide HB)
    clear hO hpr c0 c1 c2 c3 c4 c5 c6 c7 c8
    go_wp2_with fail
    refine (has_any 24 1 (by omega) (by omega) _).mono ?_
    rintro e w6 ⟨rfl, hw⟩
    rw [hw, show OD.sub 1 24 = false from rfl]
    clear hw w6
    go_wp2_with fail
    refine (has_any 24 2 (by omega) (by omega) _).mono ?_
    rintro e w6 ⟨rfl, hw⟩
    rw [hw, show OD.sub 2 24 = false from rfl]
    clear hw w6
    go_wp2_with fail
    refine (has_any 24 4 (by omega) (by omega) _).mono ?_
    rintro e w6 ⟨rfl, hw⟩
    rw [hw, show OD.sub 4 24 = false from rfl]
    clear hw w6
    obtain ⟨xa, xc, rfl, -⟩ := own_formS (unhide HO)
    obtain ⟨xn, hxn⟩ : ∃ xn, xn = pr.length := ⟨_, rfl⟩
    rw [← hxn] at HO ⊢
    clear hxn
    go_wp2_with fail
    refine (has_any 24 8 (by omega) (by omega) _).mono ?_
    rintro e w6 ⟨rfl, hw⟩
    rw [hw, show OD.sub 8 24 = true from rfl]
    clear hw w6
    go_wp2_with fail
    refine (fPut_any o.frag B _ _ _ _ pr w2 (unhide HPT _ (unhide HB)).frag (unhide HFR) (unhide HO).fresh.1.1 (by have := unhide HLN; omega)).mono ?_
    rintro e w3 ⟨ya, yn, yc, rfl, hO⟩
    obtain ⟨r3, hr3⟩ : ∃ r, r = Value.slice ya yn yc := ⟨_, rfl⟩
    rw [← hr3] at hO ⊢
    clear hr3
    have hbn := (unhide HB).trans (hO.bb.mono (unhide HB).size)
    have HO2 := hide (hO.lift ((unhide HB1).trans ((unhide HB).mono (unhide HB1).size)))
    obtain ⟨p2, hp2⟩ : ∃ p2, p2 = pr ++ bytesF o.frag := ⟨_, rfl⟩
    rw [← hp2] at HO2
    have HLN2 : Hid (p2.length ≤ 31010) := by show _ ≤ _; rw [hp2, List.length_append]; have := unhide HLN; have := unhide HFB; omega
    have HEQ2 : Hid (p2 = numB ((L : Nat) : Int) ++ bytesF o.frag) := by show _ = _; rw [hp2, unhide HEQ]
    clear hO hp2 d0 d1 d2 d3 d4 d5 d6 d7 d8 HO HLN HEQ HB
    obtain ⟨d0, d1, d2, d3, d4, d5, d6, d7, d8⟩ := unhide HKS _ hbn
    have HB := hide hbn
    have HO := hide (unhide HO2)
    have HLN := hide (unhide HLN2)
    have HEQ := hide (unhide HEQ2)
    clear hbn HO2 HLN2 HEQ2
    generalize p2 = pr at *
    go_wp2_with fail
    refine (has_any 24 16 (by omega) (by omega) _).mono ?_
    rintro e w6 ⟨rfl, hw⟩
    rw [hw, show OD.sub 16 24 = true from rfl]
    clear hw w6
    go_wp2_with fail
    refine (wNum_any _ pr q (unhide HQR) w3 (unhide HO).fresh.1.1 (by have := unhide HLN; omega)).mono ?_
    rintro e w4 ⟨r4, rfl, hO⟩
    have hbn := (unhide HB).trans (hO.bb.mono (unhide HB).size)
    have HO2 := hide (hO.lift ((unhide HB1).trans ((unhide HB).mono (unhide HB1).size)))
    obtain ⟨p2, hp2⟩ : ∃ p2, p2 = pr ++ numB q := ⟨_, rfl⟩
    rw [← hp2] at HO2
    have HLN2 : Hid (p2.length ≤ 31020) := by show _ ≤ _; rw [hp2, List.length_append]; have := unhide HLN; have := unhide HQB; omega
    have HEQ2 : Hid (p2 = numB ((L : Nat) : Int) ++ bytesF o.frag ++ numB q) := by show _ = _; rw [hp2, unhide HEQ]
    clear hO hp2 d0 d1 d2 d3 d4 d5 d6 d7 d8 HO HLN HEQ HB
    obtain ⟨d0, d1, d2, d3, d4, d5, d6, d7, d8⟩ := unhide HKS _ hbn
    have HB := hide hbn
    have HO := hide (unhide HO2)
    have HLN := hide (unhide HLN2)
    have HEQ := hide (unhide HEQ2)
    clear hbn HO2 HLN2 HEQ2
    generalize p2 = pr at *
    go_wp2_with fail
    go_ret
    refine ⟨_, rfl, ?_⟩
    have h := unhide HO
    rw [unhide HEQ] at h
    try rw [unhide HTK] at h
    try rw [unhide HQT] at h
    have e : numB ((L : Nat) : Int) ++ bytesF o.frag ++ numB o.quota = o.bytes := by rw [show o.bytes = numB ((o.what : Nat) : Int) ++ (bytesF o.frag ++ numB o.quota) by have e : o.what = 1 := (unhide HWH).symm.trans (unhide HHW); rw [OD.bytes_1 e, e]; rfl, ← unhide HWH] <;> simp only [List.append_assoc]
    rw [e] at h
    exact h
  · have HOF : Hid (Calls Tryz.prog 24 #[.int .u8 ((L : Nat) : Int)] W1 fun e w' => e = .returned (.int .u8 1) ∧ w' = W1) := by have h := unhide HOF0; rw [show OD.has L = 1 by rcases hw with h | h <;> rw [h] <;> rfl] at h; exact h
    have HHW := hide hw
    clear hw HOF0
    go_enter Tryz.func23, Tryz.ntmps23
    go_upto_region 1 with fail
    rw [← hW1]
    clear hW1
    go_wp2_with fail
    refine (unhide HOF).mono ?_
    rintro e w6 ⟨rfl, hw⟩
    rw [hw]
    clear hw w6
    go_wp2_with fail
    refine (wNum_any _ [] ((L : Nat) : Int) (unhide HLR) W1 (Own.start W1).fresh.1.1 (by simp)).mono ?_
    rintro e w2 ⟨r2, rfl, hO⟩
    have HB := hide hO.bb
    have HO : Hid (Own w r2 (numB ((L : Nat) : Int)) w2) := by
      have h := hO.lift (unhide HB1)
      rwa [List.nil_append] at h
    obtain ⟨pr, hpr⟩ : ∃ pr, pr = numB ((L : Nat) : Int) := ⟨_, rfl⟩
    rw [← hpr] at HO
    have HLN : Hid (pr.length ≤ 10) := by show _ ≤ _; rw [hpr]; exact numB_ten (unhide HLR)
    have HEQ := hide hpr
    obtain ⟨d0, d1, d2, d3, d4, d5, d6, d7, d8⟩ := unhide HKS _ (unhide HB)
    clear hO hpr c0 c1 c2 c3 c4 c5 c6 c7 c8
    go_wp2_with fail
    refine (has_any 1 1 (by omega) (by omega) _).mono ?_
    rintro e w6 ⟨rfl, hw⟩
    rw [hw, show OD.sub 1 1 = true from rfl]
    clear hw w6
    go_wp2_with fail
    refine (wText_any _ pr o.id w2 (unhide HO).fresh.1.1 (by have := unhide HLN; omega) (by have := unhide HIL; omega)).mono ?_
    rintro e w3 ⟨r3, rfl, hO⟩
    have hbn := (unhide HB).trans (hO.bb.mono (unhide HB).size)
    have HO2 := hide (hO.lift ((unhide HB1).trans ((unhide HB).mono (unhide HB1).size)))
    obtain ⟨p2, hp2⟩ : ∃ p2, p2 = pr ++ textB o.id := ⟨_, rfl⟩
    rw [← hp2] at HO2
    have HLN2 : Hid (p2.length ≤ 420) := by show _ ≤ _; rw [hp2, List.length_append]; have := unhide HLN; have := unhide HIB; omega
    have HEQ2 : Hid (p2 = numB ((L : Nat) : Int) ++ textB o.id) := by show _ = _; rw [hp2, unhide HEQ]
    clear hO hp2 d0 d1 d2 d3 d4 d5 d6 d7 d8 HO HLN HEQ HB
    obtain ⟨d0, d1, d2, d3, d4, d5, d6, d7, d8⟩ := unhide HKS _ hbn
    have HB := hide hbn
    have HO := hide (unhide HO2)
    have HLN := hide (unhide HLN2)
    have HEQ := hide (unhide HEQ2)
    clear hbn HO2 HLN2 HEQ2
    generalize p2 = pr at *
    go_wp2_with fail
    refine (has_any 1 2 (by omega) (by omega) _).mono ?_
    rintro e w6 ⟨rfl, hw⟩
    rw [hw, show OD.sub 2 1 = false from rfl]
    clear hw w6
    go_wp2_with fail
    refine (has_any 1 4 (by omega) (by omega) _).mono ?_
    rintro e w6 ⟨rfl, hw⟩
    rw [hw, show OD.sub 4 1 = false from rfl]
    clear hw w6
    go_wp2_with fail
    refine (has_any 1 8 (by omega) (by omega) _).mono ?_
    rintro e w6 ⟨rfl, hw⟩
    rw [hw, show OD.sub 8 1 = false from rfl]
    clear hw w6
    go_wp2_with fail
    refine (has_any 1 16 (by omega) (by omega) _).mono ?_
    rintro e w6 ⟨rfl, hw⟩
    rw [hw, show OD.sub 16 1 = false from rfl]
    clear hw w6
    go_wp2_with fail
    go_ret
    refine ⟨_, rfl, ?_⟩
    have h := unhide HO
    rw [unhide HEQ] at h
    try rw [unhide HTK] at h
    try rw [unhide HQT] at h
    have e : numB ((L : Nat) : Int) ++ textB o.id = o.bytes := by rw [show o.bytes = numB ((o.what : Nat) : Int) ++ textB o.id by rcases unhide HHW with h | h <;> (have e := (unhide HWH).symm.trans h; first | exact (OD.bytes_2 e).trans (by rw [e] <;> rfl) | exact (OD.bytes_5 e).trans (by rw [e] <;> rfl)), ← unhide HWH] <;> simp only [List.append_assoc]
    rw [e] at h
    exact h
  · have HOF : Hid (Calls Tryz.prog 24 #[.int .u8 ((L : Nat) : Int)] W1 fun e w' => e = .returned (.int .u8 15) ∧ w' = W1) := by have h := unhide HOF0; rw [show OD.has L = 15 by rw [hw]; rfl] at h; exact h
    have HHW := hide hw
    have HVR := hide hvr
    have HVB : Hid (o.value.bytes.length ≤ 26000) := VD.right_bytes_le hvr (unhide HPT _ (Below.refl _ _)).value.fits
    clear hvr
    have HFR := hide hfr
    have HFB : Hid ((bytesF o.frag).length ≤ 31000) := bytesF_le hfr
    clear hfr
    clear hw HOF0
    go_enter Tryz.func23, Tryz.ntmps23
    go_upto_region 1 with fail
    rw [← hW1]
    clear hW1
    go_wp2_with fail
    refine (unhide HOF).mono ?_
    rintro e w6 ⟨rfl, hw⟩
    rw [hw]
    clear hw w6
    go_wp2_with fail
    refine (wNum_any _ [] ((L : Nat) : Int) (unhide HLR) W1 (Own.start W1).fresh.1.1 (by simp)).mono ?_
    rintro e w2 ⟨r2, rfl, hO⟩
    have HB := hide hO.bb
    have HO : Hid (Own w r2 (numB ((L : Nat) : Int)) w2) := by
      have h := hO.lift (unhide HB1)
      rwa [List.nil_append] at h
    obtain ⟨pr, hpr⟩ : ∃ pr, pr = numB ((L : Nat) : Int) := ⟨_, rfl⟩
    rw [← hpr] at HO
    have HLN : Hid (pr.length ≤ 10) := by show _ ≤ _; rw [hpr]; exact numB_ten (unhide HLR)
    have HEQ := hide hpr
    obtain ⟨d0, d1, d2, d3, d4, d5, d6, d7, d8⟩ := unhide HKS _ (unhide HB)
    clear hO hpr c0 c1 c2 c3 c4 c5 c6 c7 c8
    go_wp2_with fail
    refine (has_any 15 1 (by omega) (by omega) _).mono ?_
    rintro e w6 ⟨rfl, hw⟩
    rw [hw, show OD.sub 1 15 = true from rfl]
    clear hw w6
    go_wp2_with fail
    refine (wText_any _ pr o.id w2 (unhide HO).fresh.1.1 (by have := unhide HLN; omega) (by have := unhide HIL; omega)).mono ?_
    rintro e w3 ⟨r3, rfl, hO⟩
    have hbn := (unhide HB).trans (hO.bb.mono (unhide HB).size)
    have HO2 := hide (hO.lift ((unhide HB1).trans ((unhide HB).mono (unhide HB1).size)))
    obtain ⟨p2, hp2⟩ : ∃ p2, p2 = pr ++ textB o.id := ⟨_, rfl⟩
    rw [← hp2] at HO2
    have HLN2 : Hid (p2.length ≤ 420) := by show _ ≤ _; rw [hp2, List.length_append]; have := unhide HLN; have := unhide HIB; omega
    have HEQ2 : Hid (p2 = numB ((L : Nat) : Int) ++ textB o.id) := by show _ = _; rw [hp2, unhide HEQ]
    clear hO hp2 d0 d1 d2 d3 d4 d5 d6 d7 d8 HO HLN HEQ HB
    obtain ⟨d0, d1, d2, d3, d4, d5, d6, d7, d8⟩ := unhide HKS _ hbn
    have HB := hide hbn
    have HO := hide (unhide HO2)
    have HLN := hide (unhide HLN2)
    have HEQ := hide (unhide HEQ2)
    clear hbn HO2 HLN2 HEQ2
    generalize p2 = pr at *
    go_wp2_with fail
    refine (has_any 15 2 (by omega) (by omega) _).mono ?_
    rintro e w6 ⟨rfl, hw⟩
    rw [hw, show OD.sub 2 15 = true from rfl]
    clear hw w6
    go_wp2_with fail
    refine (wNum_any _ pr t (unhide HTR) w3 (unhide HO).fresh.1.1 (by have := unhide HLN; omega)).mono ?_
    rintro e w4 ⟨r4, rfl, hO⟩
    have hbn := (unhide HB).trans (hO.bb.mono (unhide HB).size)
    have HO2 := hide (hO.lift ((unhide HB1).trans ((unhide HB).mono (unhide HB1).size)))
    obtain ⟨p2, hp2⟩ : ∃ p2, p2 = pr ++ numB t := ⟨_, rfl⟩
    rw [← hp2] at HO2
    have HLN2 : Hid (p2.length ≤ 430) := by show _ ≤ _; rw [hp2, List.length_append]; have := unhide HLN; have := unhide HTB; omega
    have HEQ2 : Hid (p2 = numB ((L : Nat) : Int) ++ textB o.id ++ numB t) := by show _ = _; rw [hp2, unhide HEQ]
    clear hO hp2 d0 d1 d2 d3 d4 d5 d6 d7 d8 HO HLN HEQ HB
    obtain ⟨d0, d1, d2, d3, d4, d5, d6, d7, d8⟩ := unhide HKS _ hbn
    have HB := hide hbn
    have HO := hide (unhide HO2)
    have HLN := hide (unhide HLN2)
    have HEQ := hide (unhide HEQ2)
    clear hbn HO2 HLN2 HEQ2
    generalize p2 = pr at *
    obtain ⟨xa, xc, rfl, -⟩ := own_formS (unhide HO)
    obtain ⟨xn, hxn⟩ : ∃ xn, xn = pr.length := ⟨_, rfl⟩
    rw [← hxn] at HO ⊢
    clear hxn
    go_wp2_with fail
    refine (has_any 15 4 (by omega) (by omega) _).mono ?_
    rintro e w6 ⟨rfl, hw⟩
    rw [hw, show OD.sub 4 15 = true from rfl]
    clear hw w6
    go_wp2_with fail
    refine (vPut_any o.value B _ _ _ _ pr w4 (unhide HPT _ (unhide HB)).value (unhide HVR) (unhide HO).fresh.1.1 (by have := unhide HLN; omega)).mono ?_
    rintro e w5 ⟨r5, rfl, hO⟩
    have hbn := (unhide HB).trans (hO.bb.mono (unhide HB).size)
    have HO2 := hide (hO.lift ((unhide HB1).trans ((unhide HB).mono (unhide HB1).size)))
    obtain ⟨p2, hp2⟩ : ∃ p2, p2 = pr ++ o.value.bytes := ⟨_, rfl⟩
    rw [← hp2] at HO2
    have HLN2 : Hid (p2.length ≤ 26430) := by show _ ≤ _; rw [hp2, List.length_append]; have := unhide HLN; have := unhide HVB; omega
    have HEQ2 : Hid (p2 = numB ((L : Nat) : Int) ++ textB o.id ++ numB t ++ o.value.bytes) := by show _ = _; rw [hp2, unhide HEQ]
    clear hO hp2 d0 d1 d2 d3 d4 d5 d6 d7 d8 HO HLN HEQ HB
    obtain ⟨d0, d1, d2, d3, d4, d5, d6, d7, d8⟩ := unhide HKS _ hbn
    have HB := hide hbn
    have HO := hide (unhide HO2)
    have HLN := hide (unhide HLN2)
    have HEQ := hide (unhide HEQ2)
    clear hbn HO2 HLN2 HEQ2
    generalize p2 = pr at *
    obtain ⟨xa, xc, rfl, -⟩ := own_formS (unhide HO)
    obtain ⟨xn, hxn⟩ : ∃ xn, xn = pr.length := ⟨_, rfl⟩
    rw [← hxn] at HO ⊢
    clear hxn
    go_wp2_with fail
    refine (has_any 15 8 (by omega) (by omega) _).mono ?_
    rintro e w6 ⟨rfl, hw⟩
    rw [hw, show OD.sub 8 15 = true from rfl]
    clear hw w6
    go_wp2_with fail
    refine (fPut_any o.frag B _ _ _ _ pr w5 (unhide HPT _ (unhide HB)).frag (unhide HFR) (unhide HO).fresh.1.1 (by have := unhide HLN; omega)).mono ?_
    rintro e w6 ⟨ya, yn, yc, rfl, hO⟩
    obtain ⟨r6, hr6⟩ : ∃ r, r = Value.slice ya yn yc := ⟨_, rfl⟩
    rw [← hr6] at hO ⊢
    clear hr6
    have hbn := (unhide HB).trans (hO.bb.mono (unhide HB).size)
    have HO2 := hide (hO.lift ((unhide HB1).trans ((unhide HB).mono (unhide HB1).size)))
    obtain ⟨p2, hp2⟩ : ∃ p2, p2 = pr ++ bytesF o.frag := ⟨_, rfl⟩
    rw [← hp2] at HO2
    have HLN2 : Hid (p2.length ≤ 57430) := by show _ ≤ _; rw [hp2, List.length_append]; have := unhide HLN; have := unhide HFB; omega
    have HEQ2 : Hid (p2 = numB ((L : Nat) : Int) ++ textB o.id ++ numB t ++ o.value.bytes ++ bytesF o.frag) := by show _ = _; rw [hp2, unhide HEQ]
    clear hO hp2 d0 d1 d2 d3 d4 d5 d6 d7 d8 HO HLN HEQ HB
    obtain ⟨d0, d1, d2, d3, d4, d5, d6, d7, d8⟩ := unhide HKS _ hbn
    have HB := hide hbn
    have HO := hide (unhide HO2)
    have HLN := hide (unhide HLN2)
    have HEQ := hide (unhide HEQ2)
    clear hbn HO2 HLN2 HEQ2
    generalize p2 = pr at *
    go_wp2_with fail
    refine (has_any 15 16 (by omega) (by omega) _).mono ?_
    rintro e w6 ⟨rfl, hw⟩
    rw [hw, show OD.sub 16 15 = false from rfl]
    clear hw w6
    go_wp2_with fail
    go_ret
    refine ⟨_, rfl, ?_⟩
    have h := unhide HO
    rw [unhide HEQ] at h
    try rw [unhide HTK] at h
    try rw [unhide HQT] at h
    have e : numB ((L : Nat) : Int) ++ textB o.id ++ numB o.token ++ o.value.bytes ++ bytesF o.frag = o.bytes := by rw [show o.bytes = numB ((o.what : Nat) : Int) ++ (textB o.id ++ (numB o.token ++ (o.value.bytes ++ bytesF o.frag))) by have e : o.what = 3 := (unhide HWH).symm.trans (unhide HHW); rw [OD.bytes_3 e, e]; rfl, ← unhide HWH] <;> simp only [List.append_assoc]
    rw [e] at h
    exact h
  · have HOF : Hid (Calls Tryz.prog 24 #[.int .u8 ((L : Nat) : Int)] W1 fun e w' => e = .returned (.int .u8 3) ∧ w' = W1) := by have h := unhide HOF0; rw [show OD.has L = 3 by rw [hw]; rfl] at h; exact h
    have HHW := hide hw
    clear hw HOF0
    go_enter Tryz.func23, Tryz.ntmps23
    go_upto_region 1 with fail
    rw [← hW1]
    clear hW1
    go_wp2_with fail
    refine (unhide HOF).mono ?_
    rintro e w6 ⟨rfl, hw⟩
    rw [hw]
    clear hw w6
    go_wp2_with fail
    refine (wNum_any _ [] ((L : Nat) : Int) (unhide HLR) W1 (Own.start W1).fresh.1.1 (by simp)).mono ?_
    rintro e w2 ⟨r2, rfl, hO⟩
    have HB := hide hO.bb
    have HO : Hid (Own w r2 (numB ((L : Nat) : Int)) w2) := by
      have h := hO.lift (unhide HB1)
      rwa [List.nil_append] at h
    obtain ⟨pr, hpr⟩ : ∃ pr, pr = numB ((L : Nat) : Int) := ⟨_, rfl⟩
    rw [← hpr] at HO
    have HLN : Hid (pr.length ≤ 10) := by show _ ≤ _; rw [hpr]; exact numB_ten (unhide HLR)
    have HEQ := hide hpr
    obtain ⟨d0, d1, d2, d3, d4, d5, d6, d7, d8⟩ := unhide HKS _ (unhide HB)
    clear hO hpr c0 c1 c2 c3 c4 c5 c6 c7 c8
    go_wp2_with fail
    refine (has_any 3 1 (by omega) (by omega) _).mono ?_
    rintro e w6 ⟨rfl, hw⟩
    rw [hw, show OD.sub 1 3 = true from rfl]
    clear hw w6
    go_wp2_with fail
    refine (wText_any _ pr o.id w2 (unhide HO).fresh.1.1 (by have := unhide HLN; omega) (by have := unhide HIL; omega)).mono ?_
    rintro e w3 ⟨r3, rfl, hO⟩
    have hbn := (unhide HB).trans (hO.bb.mono (unhide HB).size)
    have HO2 := hide (hO.lift ((unhide HB1).trans ((unhide HB).mono (unhide HB1).size)))
    obtain ⟨p2, hp2⟩ : ∃ p2, p2 = pr ++ textB o.id := ⟨_, rfl⟩
    rw [← hp2] at HO2
    have HLN2 : Hid (p2.length ≤ 420) := by show _ ≤ _; rw [hp2, List.length_append]; have := unhide HLN; have := unhide HIB; omega
    have HEQ2 : Hid (p2 = numB ((L : Nat) : Int) ++ textB o.id) := by show _ = _; rw [hp2, unhide HEQ]
    clear hO hp2 d0 d1 d2 d3 d4 d5 d6 d7 d8 HO HLN HEQ HB
    obtain ⟨d0, d1, d2, d3, d4, d5, d6, d7, d8⟩ := unhide HKS _ hbn
    have HB := hide hbn
    have HO := hide (unhide HO2)
    have HLN := hide (unhide HLN2)
    have HEQ := hide (unhide HEQ2)
    clear hbn HO2 HLN2 HEQ2
    generalize p2 = pr at *
    go_wp2_with fail
    refine (has_any 3 2 (by omega) (by omega) _).mono ?_
    rintro e w6 ⟨rfl, hw⟩
    rw [hw, show OD.sub 2 3 = true from rfl]
    clear hw w6
    go_wp2_with fail
    refine (wNum_any _ pr t (unhide HTR) w3 (unhide HO).fresh.1.1 (by have := unhide HLN; omega)).mono ?_
    rintro e w4 ⟨r4, rfl, hO⟩
    have hbn := (unhide HB).trans (hO.bb.mono (unhide HB).size)
    have HO2 := hide (hO.lift ((unhide HB1).trans ((unhide HB).mono (unhide HB1).size)))
    obtain ⟨p2, hp2⟩ : ∃ p2, p2 = pr ++ numB t := ⟨_, rfl⟩
    rw [← hp2] at HO2
    have HLN2 : Hid (p2.length ≤ 430) := by show _ ≤ _; rw [hp2, List.length_append]; have := unhide HLN; have := unhide HTB; omega
    have HEQ2 : Hid (p2 = numB ((L : Nat) : Int) ++ textB o.id ++ numB t) := by show _ = _; rw [hp2, unhide HEQ]
    clear hO hp2 d0 d1 d2 d3 d4 d5 d6 d7 d8 HO HLN HEQ HB
    obtain ⟨d0, d1, d2, d3, d4, d5, d6, d7, d8⟩ := unhide HKS _ hbn
    have HB := hide hbn
    have HO := hide (unhide HO2)
    have HLN := hide (unhide HLN2)
    have HEQ := hide (unhide HEQ2)
    clear hbn HO2 HLN2 HEQ2
    generalize p2 = pr at *
    go_wp2_with fail
    refine (has_any 3 4 (by omega) (by omega) _).mono ?_
    rintro e w6 ⟨rfl, hw⟩
    rw [hw, show OD.sub 4 3 = false from rfl]
    clear hw w6
    go_wp2_with fail
    refine (has_any 3 8 (by omega) (by omega) _).mono ?_
    rintro e w6 ⟨rfl, hw⟩
    rw [hw, show OD.sub 8 3 = false from rfl]
    clear hw w6
    go_wp2_with fail
    refine (has_any 3 16 (by omega) (by omega) _).mono ?_
    rintro e w6 ⟨rfl, hw⟩
    rw [hw, show OD.sub 16 3 = false from rfl]
    clear hw w6
    go_wp2_with fail
    go_ret
    refine ⟨_, rfl, ?_⟩
    have h := unhide HO
    rw [unhide HEQ] at h
    try rw [unhide HTK] at h
    try rw [unhide HQT] at h
    have e : numB ((L : Nat) : Int) ++ textB o.id ++ numB o.token = o.bytes := by rw [show o.bytes = numB ((o.what : Nat) : Int) ++ (textB o.id ++ numB o.token) by have e : o.what = 4 := (unhide HWH).symm.trans (unhide HHW); rw [OD.bytes_4 e, e]; rfl, ← unhide HWH] <;> simp only [List.append_assoc]
    rw [e] at h
    exact h

/-- What Bytes tells. -/
def OBytesM (o : OD) (w : World) (e : Ending) (w' : World) : Prop := ∃ (pa : Option Addr) (pn pc : Nat) (er : Int) (rs : List UInt8), e = .returned (.tuple #[.slice pa pn pc, .int .i64 er]) ∧ Bytes w' (.slice pa pn pc) rs ∧ Below w.heap.size w w' ∧ ((o.right = true ∧ er = 0 ∧ rs = o.bytes ∧ Own w (.slice pa pn pc) o.bytes w') ∨ (o.right = false ∧ er = 2 ∧ rs = [] ∧ pn = 0))

set_option maxRecDepth 100000 in
set_option maxHeartbeats 4000000 in
theorem oBytes_any (o : OD) (B : Nat → Prop) (u : Value) (w : World) (h : o.At B w u) (hl : o.Lt) (hT : OTab w) : Calls Tryz.prog 7 #[u] w (OBytesM o w) := by
  obtain ⟨L, s, t, K, N, z, a, m, c, fa, fn, fc, q, rfl, hp⟩ := h.form
  unfold OD.form9
  obtain ⟨W1, hW1⟩ : ∃ W1, W1 = w.alloc (.cells #[.int .u8 ((L : Nat) : Int), .string s, .int .i64 t, .int .u8 ((K : Nat) : Int), .int .i64 N, .string z, .slice a m c, .slice fa fn fc, .int .i64 q] 27) := ⟨_, rfl⟩
  have hb1 : Below w.heap.size w W1 := by rw [hW1]; exact (Below.refl _ _).alloc (Nat.le_refl _) _
  have hg1 : W1.heap[w.heap.size]? = some (.cells #[.int .u8 ((L : Nat) : Int), .string s, .int .i64 t, .int .u8 ((K : Nat) : Int), .int .i64 N, .string z, .slice a m c, .slice fa fn fc, .int .i64 q] 27 (0, 0)) := by rw [hW1]; exact heap_alloc_new _ _
  have HKS : Hid (∀ X, Below W1.heap.size W1 X → X.cell? ⟨w.heap.size, 0, none⟩ = some (.int .u8 ((L : Nat) : Int)) ∧ X.cell? ⟨w.heap.size, 1, none⟩ = some (.string s) ∧ X.cell? ⟨w.heap.size, 2, none⟩ = some (.int .i64 t) ∧ X.cell? ⟨w.heap.size, 3, none⟩ = some (.int .u8 ((K : Nat) : Int)) ∧ X.cell? ⟨w.heap.size, 4, none⟩ = some (.int .i64 N) ∧ X.cell? ⟨w.heap.size, 5, none⟩ = some (.string z) ∧ X.cell? ⟨w.heap.size, 6, none⟩ = some (.slice a m c) ∧ X.cell? ⟨w.heap.size, 7, none⟩ = some (.slice fa fn fc) ∧ X.cell? ⟨w.heap.size, 8, none⟩ = some (.int .i64 q)) := fun X hX => cells9 ((hX.block _ (Array.getElem?_eq_some_iff.1 hg1).1).trans hg1)
  have HRI : Hid (Calls Tryz.prog 10 #[OD.form9 L s t K N z a m c fa fn fc q] W1 fun e w' => e = .returned (.bool o.right) ∧ Below W1.heap.size W1 w') := oRight_any o B _ W1 (hp.later hb1).at hl (hT.later hb1)
  have HSA : Hid (∀ X, Below W1.heap.size W1 X → o.right = true → Calls Tryz.prog 23 #[OD.form9 L s t K N z a m c fa fn fc q] X fun e w' => ∃ r, e = .returned r ∧ Own X r o.bytes w') := fun X hX hr => oSaid_any o B _ X (hp.later (hb1.trans (hX.mono hb1.size))).at hr (hT.later (hb1.trans (hX.mono hb1.size)))
  have HB1 := hide hb1
  obtain ⟨c0, c1, c2, c3, c4, c5, c6, c7, c8⟩ := cells9 hg1
  unfold OD.form9 at *
  clear hp hg1 hb1 h hl hT
  go_enter Tryz.func7, Tryz.ntmps7
  go_upto_region 1 with fail
  rw [← hW1]
  clear hW1
  go_wp2_with fail
  refine (unhide HRI).mono ?_
  rintro e w2 ⟨rfl, hb2⟩
  have HB2 := hide hb2
  obtain ⟨d0, d1, d2, d3, d4, d5, d6, d7, d8⟩ := unhide HKS _ hb2
  clear hb2 c0 c1 c2 c3 c4 c5 c6 c7 c8
  obtain ⟨rr, hrr⟩ : ∃ rr, rr = o.right := ⟨_, rfl⟩
  rw [← hrr]
  rw [← hrr] at HSA
  have HRR := hide hrr
  clear hrr
  cases rr with
  | false =>
    go_wp2_with fail
    go_ret2
    exact ⟨none, 0, 0, 2, [], rfl, (Own.start w2).fresh.1.1, (unhide HB1).trans ((unhide HB2).mono (unhide HB1).size), .inr ⟨(unhide HRR).symm, rfl, rfl, rfl⟩⟩
  | true =>
    go_wp2_with fail
    refine (unhide HSA _ (unhide HB2) trivial).mono ?_
    rintro e w3 ⟨r, rfl, hO⟩
    have HO := hide (hO.lift ((unhide HB1).trans ((unhide HB2).mono (unhide HB1).size)))
    obtain ⟨pa, pc, rfl, -⟩ := own_formS hO
    generalize o.bytes.length = pn at *
    clear hO d0 d1 d2 d3 d4 d5 d6 d7 d8
    go_wp2_with fail
    go_ret2
    exact ⟨pa, _, pc, 0, o.bytes, rfl, (unhide HO).fresh.1.1, (unhide HO).bb, .inl ⟨(unhide HRR).symm, rfl, rfl, unhide HO⟩⟩
end Go.Proofs.YtdlbpbglidhlfaaGreatDoor

namespace Go.Proofs.YtdlbpbglidhlfaaGreatDoor
open Go.RowKit

theorem eqL_take_succ {l m : List (List UInt8)} {j : Nat} (h : j < l.length) (h2 : j < m.length) (e : l.take j = m.take j) (he : l[j]'h = m[j]'h2) : l.take (j + 1) = m.take (j + 1) := by
  rw [List.take_succ_eq_append_getElem h, List.take_succ_eq_append_getElem h2, e, he]
theorem eqL_false {l m : List (List UInt8)} {j : Nat} (h : j < l.length) (h2 : j < m.length) (he : l[j]'h ≠ m[j]'h2) : l ≠ m := fun e => by
  subst e
  exact he rfl

set_option maxRecDepth 100000 in
set_option maxHeartbeats 2000000 in
theorem equalStr_any (l m : List (List UInt8)) (B B2 : Nat → Prop) (n n2 c c2 : Nat) (a a2 : Option Addr) (w : World) (hn : n = l.length) (hn2 : n2 = m.length) (hn6 : n ≤ maxLen) (hS : StrsAt B w a l) (hS2 : StrsAt B2 w a2 m) :
    Calls Tryz.prog 78 #[.slice a n c, .slice a2 n2 c2] w fun e w' => e = .returned (.bool (decide (l = m))) ∧ Below w.heap.size w w' := by
  have HN := hide hn
  have HN2 := hide hn2
  have HS := hide hS
  have HS2 := hide hS2
  have HB0 := hide (Below.refl w.heap.size w)
  unfold maxLen at hn6
  clear hn hn2 hS hS2
  by_cases hl : n = n2
  case neg =>
    have gl : (((n : Nat) : Int) == ((n2 : Nat) : Int)) = false := by rw [beq_eq_false_iff_ne]; omega
    have gl2 : (((n : Nat) : Int) != ((n2 : Nat) : Int)) = true := by rw [bne, gl]; rfl
    have gl3 : (n == n2) = false := beq_eq_false_iff_ne.2 hl
    have gl4 : (n != n2) = true := by rw [bne, gl3]; rfl
    have HD : Hid (decide (l = m) = false) := decide_eq_false fun e => hl (by rw [unhide HN, unhide HN2, e])
    clear hl
    go_enter Tryz.func78, Tryz.ntmps78
    go_wp2_with fail
    go_ret
    exact ⟨ret_bool (unhide HD).symm, unhide HB0⟩
  have gl : (((n : Nat) : Int) == ((n2 : Nat) : Int)) = true := by rw [beq_iff_eq]; omega
  have gl2 : (((n : Nat) : Int) != ((n2 : Nat) : Int)) = false := by rw [bne, gl]; rfl
  have gl3 : (n == n2) = true := beq_iff_eq.2 hl
  have gl4 : (n != n2) = false := by rw [bne, gl3]; rfl
  have HLL := hide hl
  clear hl
  go_enter Tryz.func78, Tryz.ntmps78
  go_wp2_with fail
  clear gl gl2 gl3 gl4
  go_loopw [13] (fun k W => ∃ j : Nat, j ≤ n ∧ k = .int .i64 ((j : Nat) : Int) ∧ l.take j = m.take j ∧ Below w.heap.size w W) (fun k _ => n - (intOf k).toNat)
  case atStart => exact ⟨0, by omega, rfl, by simp, unhide HB0⟩
  case round =>
    obtain ⟨j, hj, rfl, hkt, hb⟩ := hrel
    have HB := hide hb
    have HKT := hide hkt
    have hk : ∀ {p : Addr} {x : Value}, w.cell? p = some x → wr.cell? p = some x := fun hx => (hb.cell (World.block_lt_of_cell? _ _ hx)).trans hx
    by_cases hlt : j < n
    · have hji : ((j : Nat) : Int) < ((n : Nat) : Int) := by omega
      have hjl : j < l.length := by have := unhide HN; omega
      have hjl2 : j < m.length := by have := unhide HN2; have := unhide HLL; omega
      have hjn2 : j < n2 := by have := unhide HLL; omega
      have hji2 : ((j : Nat) : Int) < ((n2 : Nat) : Int) := by omega
      obtain ⟨b, o, rfl, _, x0, _⟩ := unhide HS j hjl
      obtain ⟨b', o', rfl, _, y0, _⟩ := unhide HS2 j hjl2
      have p0 := hk x0
      have q0 := hk y0
      have hse := str_eq l[j] m[j]
      have HTS := hide (eqL_take_succ hjl hjl2 hkt)
      have HTF := hide (eqL_false hjl hjl2)
      obtain ⟨q, hq⟩ : ∃ q, q = decide (l[j] = m[j]) := ⟨_, rfl⟩
      rw [← hq] at hse
      have HQ := hide hq
      generalize (⟨l[j].toArray⟩ : ByteArray) = z1 at *
      generalize (⟨m[j].toArray⟩ : ByteArray) = z2 at *
      have hsn : (z1.toList != z2.toList) = !q := by rw [bne, hse]
      clear x0 y0 hkt hb hk hq HKT
      cases q with
      | true =>
        have HT : Hid (l.take (j + 1) = m.take (j + 1)) := unhide HTS (of_decide_eq_true (unhide HQ).symm)
        have hsn : (z1.toList != z2.toList) = false := hsn
        go_upto_region 6 with fail
        go_quiet (fail)
        go_wp2_with fail
        exact ⟨⟨j + 1, by omega, by go_num, unhide HT, (unhide HB).trans ((below_drewN _ _).mono (unhide HB).size)⟩, by simp [intOf]; omega⟩
      | false =>
        have HD : Hid (decide (l = m) = false) := decide_eq_false (unhide HTF (of_decide_eq_false (unhide HQ).symm))
        have hsn : (z1.toList != z2.toList) = true := hsn
        go_upto_region 6 with fail
        go_quiet (fail)
        go_wp2_with fail
        go_ret
        exact ⟨ret_bool (unhide HD).symm, (unhide HB).trans ((below_drewN _ _).mono (unhide HB).size)⟩
    · have e : j = n := by omega
      have hji : ¬ ((j : Nat) : Int) < ((n : Nat) : Int) := by omega
      have HD : Hid (decide (l = m) = true) := by
        refine decide_eq_true ?_
        have h := hkt
        rwa [List.take_of_length_le (by have := unhide HN; omega), List.take_of_length_le (by have := unhide HN2; have := unhide HLL; omega)] at h
      clear e hk hkt hb HKT
      go_wp2_with fail
      go_ret
      exact ⟨ret_bool (unhide HD).symm, unhide HB⟩

theorem FI.same_parts (x y : FI) : x.same y = (decide (x.name = y.name) && (decide (x.k = y.k) && (decide (x.after = y.after) && (decide (x.over = y.over) && (decide (x.width = y.width) && decide (x.quota = y.quota)))))) := by
  unfold FI.same
  simp only [Bool.and_assoc]

set_option maxRecDepth 100000 in
set_option maxHeartbeats 4000000 in
theorem sameItem_any (x y : FI) (B B2 : Nat → Prop) (u u2 : Value) (w : World) (h : x.At B w u) (h2 : y.At B2 w u2) : Calls Tryz.prog 52 #[u, u2] w fun e w' => e = .returned (.bool (x.same y)) ∧ Below w.heap.size w w' := by
  obtain ⟨z, K, pa, pn, pc, zo, wd, qt, rfl⟩ := h.form
  obtain ⟨z2, K2, pa2, pn2, pc2, zo2, wd2, qt2, rfl⟩ := h2.form
  have hp := h.parts
  have hp2 := h2.parts
  obtain ⟨W0, hW0⟩ : ∃ W0, W0 = w.alloc (.cells #[.string z, .int .u8 ((K : Nat) : Int), .slice pa pn pc, .string zo, .int .i64 wd, .int .i64 qt] 62) := ⟨_, rfl⟩
  obtain ⟨W1, hW1⟩ : ∃ W1, W1 = W0.alloc (.cells #[.string z2, .int .u8 ((K2 : Nat) : Int), .slice pa2 pn2 pc2, .string zo2, .int .i64 wd2, .int .i64 qt2] 62) := ⟨_, rfl⟩
  have hb0 : Below w.heap.size w W0 := by rw [hW0]; exact (Below.refl _ w).alloc (Nat.le_refl _) _
  have hb01 : Below W0.heap.size W0 W1 := by rw [hW1]; exact (Below.refl _ W0).alloc (Nat.le_refl _) _
  have hb1 : Below w.heap.size w W1 := hb0.trans (hb01.mono hb0.size)
  have hs0 : W0.heap.size = w.heap.size + 1 := by rw [hW0]; simp
  have hr0 : W0.heap[w.heap.size]? = some (.cells #[.string z, .int .u8 ((K : Nat) : Int), .slice pa pn pc, .string zo, .int .i64 wd, .int .i64 qt] 62 (0, 0)) := by rw [hW0]; exact heap_alloc_new w _
  have hr1 : W1.heap[w.heap.size + 1]? = some (.cells #[.string z2, .int .u8 ((K2 : Nat) : Int), .slice pa2 pn2 pc2, .string zo2, .int .i64 wd2, .int .i64 qt2] 62 (0, 0)) := by rw [hW1, ← hs0]; exact heap_alloc_new W0 _
  have hr01 := (hb01.block _ (Array.getElem?_eq_some_iff.1 hr0).1).trans hr0
  obtain ⟨a0, a1, a2, a3, a4, a5⟩ := cells6 hr01
  obtain ⟨b0, b1, b2, b3, b4, b5⟩ := cells6 hr1
  have HB1 := hide hb1
  rw [hW0] at hW1
  have HW1 := hide hW1
  have hE := equalStr_any x.after y.after B B2 pn pn2 pc pc2 pa pa2 W1 hp.an hp2.an (Nat.le_trans hp.le hp.cm) (hp.strs.kept (fun k _ hk => hb1.block k hk) (fun _ h _ => h)) (hp2.strs.kept (fun k _ hk => hb1.block k hk) (fun _ h _ => h))
  have HE := hide hE
  have hse := str_eq x.name y.name
  have hso := str_eq x.over y.over
  rw [← hp.nm, ← hp2.nm] at hse
  rw [← hp.ov, ← hp2.ov] at hso
  have HV : Hid (x.same y = (decide (x.name = y.name) && (decide (K = K2) && (decide (x.after = y.after) && (decide (x.over = y.over) && (decide (wd = wd2) && decide (qt = qt2))))))) := by show _ = _; rw [FI.same_parts, hp.kd, hp2.kd, hp.wd, hp2.wd, hp.qt, hp2.qt]
  generalize decide (x.name = y.name) = en at *
  generalize decide (x.over = y.over) = eo at *
  generalize decide (x.after = y.after) = ea at *
  generalize x.same y = R at *
  clear h h2 hp hp2 hb0 hb01 hb1 hs0 hr0 hr1 hr01 hW0 hW1 hE
  go_enter Tryz.func52, Tryz.ntmps52
  go_upto_region 1 with fail
  rw [← unhide HW1]
  clear HW1
  cases en with
  | false =>
    go_wp2_with fail
    go_ret
    exact ⟨ret_bool (unhide HV).symm, unhide HB1⟩
  | true =>
    by_cases hk : K = K2
    case neg =>
      have gk : (((K : Nat) : Int) == ((K2 : Nat) : Int)) = false := by rw [beq_eq_false_iff_ne]; omega
      have gk3 : (K == K2) = false := beq_eq_false_iff_ne.2 hk
      have HV2 : Hid (R = false) := by show _ = _; rw [unhide HV, decide_eq_false hk]; simp
      clear hk
      go_wp2_with fail
      go_ret
      exact ⟨ret_bool (unhide HV2).symm, unhide HB1⟩
    have gk : (((K : Nat) : Int) == ((K2 : Nat) : Int)) = true := by rw [beq_iff_eq]; omega
    have gk3 : (K == K2) = true := beq_iff_eq.2 hk
    have HV2 : Hid (R = (ea && (eo && (decide (wd = wd2) && decide (qt = qt2))))) := by show _ = _; rw [unhide HV, decide_eq_true hk]; simp
    clear hk HV
    go_wp2_with fail
    refine (unhide HE).mono ?_
    rintro e w2 ⟨rfl, hb2⟩
    have HB2 := hide ((unhide HB1).trans (hb2.mono (unhide HB1).size))
    have k3 := (hb2.cell (World.block_lt_of_cell? _ _ a3)).trans a3
    have k4 := (hb2.cell (World.block_lt_of_cell? _ _ a4)).trans a4
    have k5 := (hb2.cell (World.block_lt_of_cell? _ _ a5)).trans a5
    have m3 := (hb2.cell (World.block_lt_of_cell? _ _ b3)).trans b3
    have m4 := (hb2.cell (World.block_lt_of_cell? _ _ b4)).trans b4
    have m5 := (hb2.cell (World.block_lt_of_cell? _ _ b5)).trans b5
    clear hb2 a0 a1 a2 a3 a4 a5 b0 b1 b2 b3 b4 b5
    cases ea with
    | false =>
      go_wp2_with fail
      go_ret
      exact ⟨ret_bool (unhide HV2).symm, unhide HB2⟩
    | true =>
      cases eo with
      | false =>
        go_wp2_with fail
        go_ret
        exact ⟨ret_bool (unhide HV2).symm, unhide HB2⟩
      | true =>
        by_cases hw : wd = wd2
        case neg =>
          have gw : (wd == wd2) = false := beq_eq_false_iff_ne.2 hw
          have HV3 : Hid (R = false) := by show _ = _; rw [unhide HV2, decide_eq_false hw]; simp
          clear hw
          go_wp2_with fail
          go_ret
          exact ⟨ret_bool (unhide HV3).symm, unhide HB2⟩
        have gw : (wd == wd2) = true := beq_iff_eq.2 hw
        have HV3 : Hid (R = decide (qt = qt2)) := by show _ = _; rw [unhide HV2, decide_eq_true hw]; simp
        clear hw
        by_cases hq : qt = qt2
        · have gq : (qt == qt2) = true := beq_iff_eq.2 hq
          have HV4 : Hid (R = true) := by show _ = _; rw [unhide HV3, decide_eq_true hq]
          clear hq
          go_wp2_with fail
          go_ret
          exact ⟨ret_bool (unhide HV4).symm, unhide HB2⟩
        · have gq : (qt == qt2) = false := beq_eq_false_iff_ne.2 hq
          have HV4 : Hid (R = false) := by show _ = _; rw [unhide HV3, decide_eq_false hq]
          clear hq
          go_wp2_with fail
          go_ret
          exact ⟨ret_bool (unhide HV4).symm, unhide HB2⟩

theorem sameF_take_succ : ∀ {l m : List FI} {j : Nat} (h : j < l.length) (h2 : j < m.length), sameF (l.take (j + 1)) (m.take (j + 1)) = (sameF (l.take j) (m.take j) && (l[j]'h).same (m[j]'h2))
  | x :: l, y :: m, 0, _, _ => by simp [sameF]
  | x :: l, y :: m, j + 1, h, h2 => by
    have := sameF_take_succ (l := l) (m := m) (j := j) (by simpa using h) (by simpa using h2)
    simp only [List.take_succ_cons, sameF, List.getElem_cons_succ]
    rw [this, Bool.and_assoc]
theorem sameF_at_false {l m : List FI} {j : Nat} (h : j < l.length) (h2 : j < m.length) (he : (l[j]'h).same (m[j]'h2) = false) : sameF l m = false := sameF_false fun e => by
  subst e
  rw [(FI.same_iff _ _).2 rfl] at he
  cases he
theorem sameF_length {l m : List FI} (h : l.length ≠ m.length) : sameF l m = false := sameF_false fun e => h (by rw [e])

set_option maxRecDepth 100000 in
set_option maxHeartbeats 4000000 in
theorem equalItems_any (l l2 : List FI) (B B2 : Nat → Prop) (n n2 c c2 : Nat) (a a2 : Option Addr) (w : World) (hn : n = l.length) (hn2 : n2 = l2.length) (hn6 : n ≤ maxLen) (hE : ItemsAt B w a l) (hE2 : ItemsAt B2 w a2 l2) :
    Calls Tryz.prog 51 #[.slice a n c, .slice a2 n2 c2, .func (.func 52) #[] #[]] w fun e w' => e = .returned (.bool (sameF l l2)) ∧ Below w.heap.size w w' := by
  have HN := hide hn
  have HN2 := hide hn2
  have HE := hide hE
  have HE2 := hide hE2
  have HB0 : Hid (Below w.heap.size w w) := Below.refl _ _
  unfold maxLen at hn6
  clear hn hn2 hE hE2
  by_cases hl : n = n2
  case neg =>
    have gl : (((n : Nat) : Int) == ((n2 : Nat) : Int)) = false := by rw [beq_eq_false_iff_ne]; omega
    have gl2 : (((n : Nat) : Int) != ((n2 : Nat) : Int)) = true := by rw [bne, gl]; rfl
    have gl3 : (n == n2) = false := beq_eq_false_iff_ne.2 hl
    have gl4 : (n != n2) = true := by rw [bne, gl3]; rfl
    have HD : Hid (sameF l l2 = false) := sameF_length (by rw [← unhide HN, ← unhide HN2]; exact hl)
    clear hl
    go_enter Tryz.func51, Tryz.ntmps51
    go_wp2_with fail
    go_ret
    exact ⟨ret_bool (unhide HD).symm, unhide HB0⟩
  have gl : (((n : Nat) : Int) == ((n2 : Nat) : Int)) = true := by rw [beq_iff_eq]; omega
  have gl2 : (((n : Nat) : Int) != ((n2 : Nat) : Int)) = false := by rw [bne, gl]; rfl
  have gl3 : (n == n2) = true := beq_iff_eq.2 hl
  have gl4 : (n != n2) = false := by rw [bne, gl3]; rfl
  have HLL := hide hl
  clear hl
  go_enter Tryz.func51, Tryz.ntmps51
  go_wp2_with fail
  clear gl gl2 gl3 gl4
  go_loopw [17] (fun k W => ∃ j : Nat, j ≤ n ∧ k = .int .i64 ((j : Nat) : Int) ∧ sameF (l.take j) (l2.take j) = true ∧ Below w.heap.size w W) (fun k _ => n - (intOf k).toNat)
  case atStart => exact ⟨0, by omega, rfl, rfl, unhide HB0⟩
  case round =>
    obtain ⟨j, hj, rfl, hkt, hb⟩ := hrel
    have HB := hide hb
    have HKT := hide hkt
    have hk : ∀ {p : Addr} {x : Value}, w.cell? p = some x → wr.cell? p = some x := fun hx => (hb.cell (World.block_lt_of_cell? _ _ hx)).trans hx
    by_cases hlt : j < n
    · have hji : ((j : Nat) : Int) < ((n : Nat) : Int) := by omega
      have hjl : j < l.length := by have := unhide HN; omega
      have hjl2 : j < l2.length := by have := unhide HN2; have := unhide HLL; omega
      have hjn2 : j < n2 := by have := unhide HLL; omega
      have hji2 : ((j : Nat) : Int) < ((n2 : Nat) : Int) := by omega
      obtain ⟨b, o, z, K, pa, pn, pc, zo, wd, qt, rfl, _, x0, x1, x2, x3, x4, x5, he⟩ := (unhide HE j hjl).out
      obtain ⟨b', o', z', K', pa', pn', pc', zo', wd', qt', rfl, _, y0, y1, y2, y3, y4, y5, he'⟩ := (unhide HE2 j hjl2).out
      have p0 := hk x0
      have p1 := hk x1
      have p2 := hk x2
      have p3 := hk x3
      have p4 := hk x4
      have p5 := hk x5
      obtain ⟨W4, hW4⟩ : ∃ W4, W4 = wr.alloc (.cells #[.string z, .int .u8 ((K : Nat) : Int), .slice pa pn pc, .string zo, .int .i64 wd, .int .i64 qt] 62) := ⟨_, rfl⟩
      obtain ⟨W5, hW5⟩ : ∃ W5, W5 = W4.alloc (.cells #[.string z', .int .u8 ((K' : Nat) : Int), .slice pa' pn' pc', .string zo', .int .i64 wd', .int .i64 qt'] 62) := ⟨_, rfl⟩
      have hb4 : Below wr.heap.size wr W4 := by rw [hW4]; exact (Below.refl _ _).alloc (Nat.le_refl _) _
      have hb45 : Below W4.heap.size W4 W5 := by rw [hW5]; exact (Below.refl _ _).alloc (Nat.le_refl _) _
      have hr4 : W4.heap[wr.heap.size]? = some (.cells #[.string z, .int .u8 ((K : Nat) : Int), .slice pa pn pc, .string zo, .int .i64 wd, .int .i64 qt] 62 (0, 0)) := by rw [hW4]; exact heap_alloc_new wr _
      have hr5 : W5.heap[W4.heap.size]? = some (.cells #[.string z', .int .u8 ((K' : Nat) : Int), .slice pa' pn' pc', .string zo', .int .i64 wd', .int .i64 qt'] 62 (0, 0)) := by rw [hW5]; exact heap_alloc_new W4 _
      have hb04 : Below w.heap.size w W4 := hb.trans (hb4.mono hb.size)
      have hb05 : Below w.heap.size w W5 := hb04.trans (hb45.mono hb04.size)
      have hk4 : ∀ {p : Addr} {x : Value}, w.cell? p = some x → W4.cell? p = some x := fun hx => (hb04.cell (World.block_lt_of_cell? _ _ hx)).trans hx
      have q0 := hk4 y0
      have q1 := hk4 y1
      have q2 := hk4 y2
      have q3 := hk4 y3
      have q4 := hk4 y4
      have q5 := hk4 y5
      have hr45 := (hb45.block _ (Array.getElem?_eq_some_iff.1 hr4).1).trans hr4
      obtain ⟨i0, i1, i2, i3, i4, i5⟩ := cells6 hr45
      obtain ⟨j0, j1, j2, j3, j4, j5⟩ := cells6 hr5
      have HC := hide (sameItem_any l[j] l2[j] B B2 _ _ W5 (he.later hb05) (he'.later hb05))
      have HTS := hide (sameF_take_succ hjl hjl2)
      have HFL := hide (sameF_at_false hjl hjl2)
      generalize (l[j]).same (l2[j]) = p at *
      have HW4 := hide hW4
      have HW5 := hide hW5
      have HB5 := hide hb05
      clear he he' hk hk4 x0 x1 x2 x3 x4 x5 y0 y1 y2 y3 y4 y5 hkt hb hb4 hb45 hr4 hr5 hr45 hb04 hb05 hW4 hW5
      go_upto_region 6 with fail
      rw [← unhide HW4]
      clear HW4 p0 p1 p2 p3 p4 p5
      go_upto_region 7 with fail
      rw [← unhide HW5]
      clear HW5 q0 q1 q2 q3 q4 q5
      go_wp2_with fail
      refine (unhide HC).mono ?_
      rintro e W6 ⟨rfl, hb6⟩
      have HB6 := hide ((unhide HB5).trans (hb6.mono (unhide HB5).size))
      clear hb6 i0 i1 i2 i3 i4 i5 j0 j1 j2 j3 j4 j5
      cases p with
      | true =>
        go_wp2_with fail
        exact ⟨⟨j + 1, by omega, by go_num, by rw [unhide HTS, unhide HKT]; rfl, unhide HB6⟩, by simp [intOf]; omega⟩
      | false =>
        have HD : Hid (sameF l l2 = false) := unhide HFL rfl
        go_wp2_with fail
        go_ret
        exact ⟨ret_bool (unhide HD).symm, unhide HB6⟩
    · have e : j = n := by omega
      have hji : ¬ ((j : Nat) : Int) < ((n : Nat) : Int) := by omega
      have HD : Hid (sameF l l2 = true) := by
        show _ = _
        rw [← unhide HKT, List.take_of_length_le (by have := unhide HN; omega), List.take_of_length_le (by have := unhide HN2; have := unhide HLL; omega)]
      clear e hk hkt hb
      go_wp2_with fail
      go_ret
      exact ⟨ret_bool (unhide HD).symm, unhide HB⟩

set_option maxHeartbeats 1000000 in
theorem fSame_any (l l2 : List FI) (B B2 : Nat → Prop) (u u2 : Value) (w : World) (h : FragAt B w l u) (h2 : FragAt B2 w l2 u2) : Calls Tryz.prog 29 #[u, u2] w fun e w' => e = .returned (.bool (sameF l l2)) ∧ Below w.heap.size w w' := by
  obtain ⟨a, c, rfl, hlc, hcm, hS⟩ := h
  obtain ⟨a2, c2, rfl, hlc2, hcm2, hS2⟩ := h2
  obtain ⟨n, hn⟩ : ∃ n, n = l.length := ⟨_, rfl⟩
  obtain ⟨n2, hn2⟩ : ∃ n, n = l2.length := ⟨_, rfl⟩
  have HC := hide (equalItems_any l l2 B B2 n n2 c c2 a a2 w hn hn2 (by rw [hn]; exact Nat.le_trans hlc hcm) hS hS2)
  rw [← hn, ← hn2]
  clear hlc hcm hS hlc2 hcm2 hS2 hn hn2
  go_enter Tryz.func29, Tryz.ntmps29
  go_wp2_with fail
  refine (unhide HC).mono ?_
  rintro e w2 ⟨rfl, hb⟩
  have HB := hide hb
  clear hb
  go_wp2_with fail
  go_ret
  exact ⟨rfl, unhide HB⟩
end Go.Proofs.YtdlbpbglidhlfaaGreatDoor
