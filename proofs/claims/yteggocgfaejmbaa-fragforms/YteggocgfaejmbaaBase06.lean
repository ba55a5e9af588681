/- FragPut2, FragSame, WireOk, FragAwake: our own definitions and contracts; no statement of the seat is proved here. -/
import Derived.Test.YteggocgfaejmbaaBase05
import Derived.Test.YteggocgfaejmbaaBase01
import Derived.Test.YteggocgfaejmbaaBase00
import Derived.Test.YteggocgfaejmbaaBase04
namespace Go.Proofs.Yteggocgfaejmbaa
open Go.RowKit

/-- A row under way beside an item's struct in a block of its own. -/
structure Sb (w0 : World) (g : Nat) (row : Array Value) (r : Value) (bs : List UInt8) (W : World) : Prop where
  own : Own w0 r bs W
  box : W.heap[g]? = some (.cells row 47 (0, 0))
  ne : r.ownBlock ≠ some g
theorem Sb.put {w0 W W' : World} {g : Nat} {row : Array Value} {r r' : Value} {bs cs : List UInt8} (h : Sb w0 g row r bs W) (hO : Own w0 r' cs W') (hG : GR W r W' r') : Sb w0 g row r' cs W' :=
  ⟨hO, (hG.block g (Array.getElem?_eq_some_iff.1 h.box).1 h.ne).trans h.box, hG.ne (Array.getElem?_eq_some_iff.1 h.box).1 h.ne⟩
theorem Sb.cells {w0 W : World} {g : Nat} {v0 v1 v2 v3 v4 v5 : Value} {r : Value} {bs : List UInt8} (h : Sb w0 g #[v0, v1, v2, v3, v4, v5] r bs W) : W.cell? ⟨g, 0, none⟩ = some v0 ∧ W.cell? ⟨g, 1, none⟩ = some v1 ∧ W.cell? ⟨g, 2, none⟩ = some v2 ∧ W.cell? ⟨g, 3, none⟩ = some v3 ∧ W.cell? ⟨g, 4, none⟩ = some v4 ∧ W.cell? ⟨g, 5, none⟩ = some v5 := cells6 h.box

set_option maxRecDepth 100000 in
set_option maxHeartbeats 2000000 in
theorem putItem_any (x : FI) (B : Nat → Prop) (w0 w : World) (u r : Value) (pre : List UInt8) (hA : x.At B w0 u) (hr : x.right = true) (hO : Own w0 r pre w) (hl : pre.length ≤ 100000) : Calls Try.prog 28 #[r, u] w (PutM w0 r w (pre ++ x.bytes)) := by
  obtain ⟨z, K, pa, pn, pc, zo, wd, qt, rfl⟩ := hA.form
  have hp := hA.parts
  have hbl := FI.bytes_le hr
  have hrr := hr
  rw [FI.right_parts] at hrr
  simp only [Bool.and_eq_true, decide_eq_true_eq] at hrr
  obtain ⟨hnm, hal, haf, ⟨hq0, hq4⟩, hko⟩ := hrr
  obtain ⟨W1, hW1⟩ : ∃ W1, W1 = w.alloc (.cells #[.string z, .int .u8 ((K : Nat) : Int), .slice pa pn pc, .string zo, .int .i64 wd, .int .i64 qt] 47) := ⟨_, rfl⟩
  have hb1 : Below w.heap.size w W1 := by rw [hW1]; exact (Below.refl _ w).alloc (Nat.le_refl _) _
  have hr1 : W1.heap[w.heap.size]? = some (.cells #[.string z, .int .u8 ((K : Nat) : Int), .slice pa pn pc, .string zo, .int .i64 wd, .int .i64 qt] 47 (0, 0)) := by rw [hW1]; exact heap_alloc_new w _
  obtain ⟨ra, rc, rfl, -⟩ := own_formS hO
  obtain ⟨m, hm⟩ : ∃ m, m = pre.length := ⟨_, rfl⟩
  rw [← hm] at hO ⊢
  have HS1 : Hid (Sb w0 w.heap.size #[.string z, .int .u8 ((K : Nat) : Int), .slice pa pn pc, .string zo, .int .i64 wd, .int .i64 qt] (.slice ra m rc) pre W1) := ⟨hO.later hb1, hr1, fun e => by have := (hO.own.lt _ e).2; omega⟩
  have HG1 := hide ((GR.refl w (.slice ra m rc)).later hb1)
  have hK256 : K < 256 := by rw [hp.kd]; exact hp.fits.kb
  have HC1 : Hid (∀ r W, Own w0 r pre W → Calls Try.prog 50 #[r, .string z] W (PutM w0 r W (pre ++ textB x.name))) := fun r W h => by rw [hp.nm]; exact putText_any w0 W r pre x.name (by have := nameB_len hnm; omega) h (by omega)
  have hl1 := textB_le (nameB_len hnm) (by omega)
  have hlk := numB_ten (n := ((K : Nat) : Int)) (by unfold InR; omega)
  have hln := numB_ten (n := ((x.after.length : Nat) : Int)) (by unfold InR; omega)
  have hlf := flat_le (f := textB) (m := 30) (l := x.after) (fun s hs => textB_le (nameB_len (List.all_eq_true.1 haf s hs)) (by omega))
  have hlf2 : 30 * x.after.length ≤ 600 := by omega
  have HC2 : Hid (∀ r W, Own w0 r (pre ++ textB x.name) W → Calls Try.prog 49 #[r, .int .i64 ((K : Nat) : Int)] W (PutM w0 r W (pre ++ textB x.name ++ numB ((K : Nat) : Int)))) := fun r W h => putNumber_any w0 W r _ _ (by unfold InR; omega) h (by rw [List.length_append]; omega)
  have HC3 : Hid (∀ r W, Own w0 r (pre ++ textB x.name ++ numB ((K : Nat) : Int)) W → Calls Try.prog 51 #[r, .slice pa pn pc, .func (.func 50) #[] #[]] W (PutM w0 r W (pre ++ textB x.name ++ numB ((K : Nat) : Int) ++ (numB ((x.after.length : Nat) : Int) ++ x.after.flatMap textB)))) := fun r W h => putStrs_any x.after B w0 W r _ pn pc pa hp.an (by rw [hp.an]; omega) hp.strs h (by rw [List.length_append, List.length_append]; omega)
  have HC4 : Hid (∀ r W, Own w0 r (pre ++ textB x.name ++ numB ((K : Nat) : Int) ++ (numB ((x.after.length : Nat) : Int) ++ x.after.flatMap textB)) W → Calls Try.prog 49 #[r, .int .i64 qt] W (PutM w0 r W (pre ++ textB x.name ++ numB ((K : Nat) : Int) ++ (numB ((x.after.length : Nat) : Int) ++ x.after.flatMap textB) ++ numB qt))) := fun r W h => putNumber_any w0 W r _ _ (by rw [hp.qt]; exact hp.fits.qt) h (by rw [List.length_append, List.length_append, List.length_append, List.length_append]; omega)
  obtain ⟨P1, hP1⟩ : ∃ P, P = pre ++ textB x.name := ⟨_, rfl⟩
  obtain ⟨P2, hP2⟩ : ∃ P, P = P1 ++ numB ((K : Nat) : Int) := ⟨_, rfl⟩
  obtain ⟨P3, hP3⟩ : ∃ P, P = P2 ++ (numB ((x.after.length : Nat) : Int) ++ x.after.flatMap textB) := ⟨_, rfl⟩
  obtain ⟨P4, hP4⟩ : ∃ P, P = P3 ++ numB qt := ⟨_, rfl⟩
  rw [← hP1] at HC1 HC2 HC3 HC4
  rw [← hP2] at HC2 HC3 HC4
  rw [← hP3] at HC3 HC4
  rw [← hP4] at HC4
  have hl4 : P4.length ≤ 200000 := by rw [hP4, hP3, hP2, hP1, hp.qt]; have := numB_ten (n := x.quota) (by unfold InR; omega); simp only [List.length_append]; omega
  have HBY : Hid (pre ++ x.bytes = P4 ++ x.tail) := by show _ = _; rw [hP4, hP3, hP2, hP1, hp.qt, hp.kd]; unfold FI.bytes; simp only [List.append_assoc]
  have HK1 : Hid (K ≠ 1 → pre ++ x.bytes = P4) := fun hk => by rw [unhide HBY]; unfold FI.tail; rw [if_neg (by rw [← hp.kd]; exact hk), List.append_nil]
  have HC5 : Hid (K = 1 → ∀ r W, Own w0 r P4 W → Calls Try.prog 50 #[r, .string zo] W (PutM w0 r W (P4 ++ textB x.over))) := fun hk r W h => by
    rw [hp.ov]
    refine putText_any w0 W r P4 x.over ?_ h (by omega)
    unfold FI.kindOk at hko
    simp only [Bool.or_eq_true, Bool.and_eq_true, decide_eq_true_eq] at hko
    rcases hko with ⟨⟨h, _⟩, _⟩ | ⟨⟨⟨_, ho⟩, _⟩, _⟩
    · rw [hp.kd] at hk; omega
    · have := nameB_len ho; omega
  have HC6 : Hid (K = 1 → ∀ r W, Own w0 r (P4 ++ textB x.over) W → Calls Try.prog 49 #[r, .int .i64 wd] W (PutM w0 r W (pre ++ x.bytes))) := fun hk r W h => by
    have e : pre ++ x.bytes = P4 ++ textB x.over ++ numB wd := by rw [unhide HBY]; unfold FI.tail; rw [if_pos (by rw [← hp.kd]; exact hk), hp.wd, List.append_assoc]
    rw [e]
    refine putNumber_any w0 W r _ _ (by rw [hp.wd]; exact hp.fits.wd) h ?_
    unfold FI.kindOk at hko
    simp only [Bool.or_eq_true, Bool.and_eq_true, decide_eq_true_eq] at hko
    rcases hko with ⟨⟨h, _⟩, _⟩ | ⟨⟨⟨_, ho⟩, _⟩, _⟩
    · rw [hp.kd] at hk; omega
    · have h5 := textB_le (nameB_len ho) (by omega)
      rw [List.length_append]
      omega
  have HW1 := hide hW1
  obtain ⟨c0, c1, c2, c3, c4, c5⟩ := (unhide HS1).cells
  generalize pre ++ x.bytes = PX at *
  generalize P4 ++ textB x.over = P5 at *
  clear hA hp hbl hr hnm hal haf hq0 hq4 hko hb1 hr1 hO hm hl hl1 hlk hln hlf hlf2 hP1 hP2 hP3 hP4 hl4 HBY hW1
  go_enter Try.func28, Try.ntmps28
  go_upto_region 1 with fail
  rw [← unhide HW1]
  clear HW1
  go_wp2_with fail
  refine (unhide HC1 _ _ (unhide HS1).own).mono ?_
  rintro e w2 ⟨a2, n2, d2, rfl, hO2, hG2⟩
  have HS2 := hide ((unhide HS1).put hO2 hG2)
  have HG2 := hide ((unhide HG1).trans hG2)
  clear hO2 hG2 c0 c1 c2 c3 c4 c5 HS1 HG1
  obtain ⟨c0, c1, c2, c3, c4, c5⟩ := (unhide HS2).cells
  go_wp2_with fail
  refine (unhide HC2 _ _ (unhide HS2).own).mono ?_
  rintro e w3 ⟨a3, n3, d3, rfl, hO3, hG3⟩
  have HS3 := hide ((unhide HS2).put hO3 hG3)
  have HG3 := hide ((unhide HG2).trans hG3)
  clear hO3 hG3 c0 c1 c2 c3 c4 c5 HS2 HG2
  obtain ⟨c0, c1, c2, c3, c4, c5⟩ := (unhide HS3).cells
  go_wp2_with fail
  refine (unhide HC3 _ _ (unhide HS3).own).mono ?_
  rintro e w4 ⟨a4, n4, d4, rfl, hO4, hG4⟩
  have HS4 := hide ((unhide HS3).put hO4 hG4)
  have HG4 := hide ((unhide HG3).trans hG4)
  clear hO4 hG4 c0 c1 c2 c3 c4 c5 HS3 HG3
  obtain ⟨c0, c1, c2, c3, c4, c5⟩ := (unhide HS4).cells
  go_wp2_with fail
  refine (unhide HC4 _ _ (unhide HS4).own).mono ?_
  rintro e w5 ⟨a5, n5, d5, rfl, hO5, hG5⟩
  have HS5 := hide ((unhide HS4).put hO5 hG5)
  have HG5 := hide ((unhide HG4).trans hG5)
  clear hO5 hG5 c0 c1 c2 c3 c4 c5 HS4 HG4
  obtain ⟨c0, c1, c2, c3, c4, c5⟩ := (unhide HS5).cells
  by_cases k1 : K = 1
  · have g1 : (((K : Nat) : Int) == 1) = true := by rw [beq_iff_eq]; omega
    have HC5b := hide (unhide HC5 k1)
    have HC6b := hide (unhide HC6 k1)
    clear k1
    go_wp2_with fail
    refine (unhide HC5b _ _ (unhide HS5).own).mono ?_
    rintro e w6 ⟨a6, n6, d6, rfl, hO6, hG6⟩
    have HS6 := hide ((unhide HS5).put hO6 hG6)
    have HG6 := hide ((unhide HG5).trans hG6)
    clear hO6 hG6 c0 c1 c2 c3 c4 c5 HS5 HG5
    obtain ⟨c0, c1, c2, c3, c4, c5⟩ := (unhide HS6).cells
    go_wp2_with fail
    refine (unhide HC6b _ _ (unhide HS6).own).mono ?_
    rintro e w7 ⟨a7, n7, d7, rfl, hO7, hG7⟩
    have HO7 := hide hO7
    have HG7 := hide ((unhide HG6).trans hG7)
    clear hO7 hG7 c0 c1 c2 c3 c4 c5
    go_wp2_with fail
    go_ret
    exact ⟨a7, n7, d7, rfl, unhide HO7, unhide HG7⟩
  · have g1 : (((K : Nat) : Int) == 1) = false := by rw [beq_eq_false_iff_ne]; omega
    have HPE := hide (unhide HK1 k1)
    clear k1
    go_wp2_with fail
    go_ret
    exact ⟨a5, n5, d5, rfl, by rw [unhide HPE]; exact (unhide HS5).own, unhide HG5⟩

set_option maxRecDepth 100000 in
set_option maxHeartbeats 1000000 in
theorem putItems_any (l : List FI) (B : Nat → Prop) (w0 w : World) (r : Value) (pre : List UInt8) (n c : Nat) (a : Option Addr) (hn : n = l.length) (hR : rightF l = true) (hS : ItemsAt B w0 a l) (hO : Own w0 r pre w) (hl : pre.length ≤ 1000) :
    Calls Try.prog 27 #[r, .slice a n c, .func (.func 28) #[] #[]] w (PutM w0 r w (pre ++ bytesF l)) := by
  have hbl := bytesF_le hR
  have hR2 := hR
  unfold rightF at hR2
  simp only [Bool.and_eq_true, decide_eq_true_eq] at hR2
  obtain ⟨hl40, hall⟩ := hR2
  have HR := hide (List.all_eq_true.1 hall)
  have HL : Hid (∀ j, (pre ++ numB ((n : Nat) : Int) ++ (l.take j).flatMap FI.bytes).length ≤ 100000) := fun j => by
    have h1 := flat_take_le FI.bytes l j
    unfold bytesF at hbl
    rw [List.length_append] at hbl
    rw [List.length_append, List.length_append, hn]
    omega
  have HNU := hide (putNumber_any w0 w r pre ((n : Nat) : Int) (by unfold InR; omega) hO (by omega))
  have HN := hide hn
  have HS := hide hS
  have HCS : Hid (pre ++ bytesF l = pre ++ numB ((n : Nat) : Int) ++ (l.take n).flatMap FI.bytes) := by show _ = _; unfold bytesF; rw [hn, List.take_length, List.append_assoc]
  obtain ⟨ra, rc, rfl, -⟩ := own_formS hO
  obtain ⟨m, hm⟩ : ∃ m, m = pre.length := ⟨_, rfl⟩
  rw [← hm] at HNU ⊢
  have hn6 : n ≤ 40 := by omega
  clear hn hS hO hl hm hbl hR hl40 hall
  go_enter Try.func27, Try.ntmps27
  go_wp2_with fail
  refine (unhide HNU).mono ?_
  rintro e w2 ⟨a2, n2, c2, rfl, hO2, hG2⟩
  have HO2 := hide hO2
  have HG2 := hide hG2
  clear hO2 hG2
  go_wp2_with fail
  go_loopw [0, 15] (fun v k W => ∃ (j : Nat) (a3 : Option Addr) (n3 c3 : Nat), j ≤ n ∧ k = .int .i64 ((j : Nat) : Int) ∧ v = .slice a3 n3 c3 ∧ Own w0 (.slice a3 n3 c3) (pre ++ numB ((n : Nat) : Int) ++ (l.take j).flatMap FI.bytes) W ∧ GR w (.slice ra m rc) W (.slice a3 n3 c3)) (fun _ k _ => n - (intOf k).toNat)
  case atStart => exact ⟨0, a2, n2, c2, by omega, rfl, rfl, by simpa using unhide HO2, unhide HG2⟩
  case round =>
    obtain ⟨j, a3, n3, c3, hj, rfl, rfl, hO3, hG3⟩ := hrel
    have HO3 := hide hO3
    have HG3 := hide hG3
    by_cases hlt : j < n
    · have hji : ((j : Nat) : Int) < ((n : Nat) : Int) := by omega
      have hjl : j < l.length := by have := unhide HN; omega
      obtain ⟨b, o, z, K, pa, pn, pc, zo, wd, qt, rfl, _, c0, c1, c2', c3', c4, c5, hx⟩ := (unhide HS j hjl).out
      have hk : ∀ {p : Addr} {x : Value}, w0.cell? p = some x → wr.cell? p = some x := fun hx => (hO3.bb.cell (World.block_lt_of_cell? _ _ hx)).trans hx
      have d0 := hk c0
      have d1 := hk c1
      have d2 := hk c2'
      have d3 := hk c3'
      have d4 := hk c4
      have d5 := hk c5
      obtain ⟨W4, hW4⟩ : ∃ W4, W4 = wr.alloc (.cells #[.string z, .int .u8 ((K : Nat) : Int), .slice pa pn pc, .string zo, .int .i64 wd, .int .i64 qt] 47) := ⟨_, rfl⟩
      have hb4 : Below wr.heap.size wr W4 := by rw [hW4]; exact (Below.refl _ _).alloc (Nat.le_refl _) _
      have hr4 : W4.heap[wr.heap.size]? = some (.cells #[.string z, .int .u8 ((K : Nat) : Int), .slice pa pn pc, .string zo, .int .i64 wd, .int .i64 qt] 47 (0, 0)) := by rw [hW4]; exact heap_alloc_new wr _
      obtain ⟨i0, i1, i2, i3, i4, i5⟩ := cells6 hr4
      have HTS := hide (flat_take_succ FI.bytes hjl)
      have HC := hide (putItem_any l[j] B w0 W4 _ (.slice a3 n3 c3) _ hx (unhide HR _ (List.getElem_mem hjl)) (hO3.later hb4) (unhide HL j))
      have HG4 := hide (hG3.later hb4)
      have HW4 := hide hW4
      clear c0 c1 c2' c3' c4 c5 hx hk hO3 hG3 hb4 hr4 hW4
      generalize FI.bytes l[j] = sb at *
      go_upto_region 5 with fail
      rw [← unhide HW4]
      clear HW4 d0 d1 d2 d3 d4 d5
      go_wp2_with fail
      refine (unhide HC).mono ?_
      rintro e w5 ⟨a5, n5, c5, rfl, hO5, hG5⟩
      have HO5 : Hid (Own w0 (.slice a5 n5 c5) (pre ++ numB ((n : Nat) : Int) ++ (l.take (j + 1)).flatMap FI.bytes) w5) := by
        show Own _ _ _ _
        rw [unhide HTS, ← List.append_assoc]
        exact hO5
      have HG5 := hide ((unhide HG4).trans hG5)
      clear hO5 hG5 i0 i1 i2 i3 i4 i5
      go_wp2_with fail
      exact ⟨⟨j + 1, a5, n5, c5, by omega, by go_num, rfl, unhide HO5, unhide HG5⟩, by simp [intOf]; omega⟩
    · have e : j = n := by omega
      have hji : ¬ ((j : Nat) : Int) < ((n : Nat) : Int) := by omega
      have HO4 : Hid (Own w0 (.slice a3 n3 c3) (pre ++ bytesF l) wr) := by
        show Own _ _ _ _
        rw [unhide HCS]
        rw [e] at hO3
        exact hO3
      clear e hO3 hG3 HO3
      go_wp2_with fail
      go_ret
      exact ⟨a3, n3, c3, rfl, unhide HO4, unhide HG3⟩

/-- What Bytes tells. -/
def BytesM (l : List FI) (w : World) (e : Ending) (w' : World) : Prop := ∃ (pa : Option Addr) (pn pc : Nat) (er : Int) (rs : List UInt8), e = .returned (.tuple #[.slice pa pn pc, .int .i64 er]) ∧ Bytes w' (.slice pa pn pc) rs ∧ Below w.heap.size w w' ∧ ((rightF l = true ∧ er = 0 ∧ rs = bytesF l ∧ Own w (.slice pa pn pc) rs w') ∨ (rightF l = false ∧ er = 2 ∧ rs = [] ∧ pn = 0))

set_option maxRecDepth 100000 in
set_option maxHeartbeats 2000000 in
theorem fBytes_any (l : List FI) (B : Nat → Prop) (u : Value) (w : World) (h : FragAt B w l u) : Calls Try.prog 12 #[u] w (BytesM l w) := by
  have HR0 := hide (fRight_any l B u w h)
  obtain ⟨a, c, rfl, hlc, hcm, hS⟩ := h
  have HP0 : Hid (rightF l = true → ∀ W, Below w.heap.size w W → Calls Try.prog 27 #[.slice none 0 0, .slice a l.length c, .func (.func 28) #[] #[]] W fun e w' => ∃ a n c, e = .returned (.slice a n c) ∧ Own W (.slice a n c) (bytesF l) w') := fun hr W hW => (putItems_any l B W W (.slice none 0 0) [] l.length c a rfl hr (hS.later hW) (Own.start W) (by simp)).mono fun e w' ⟨a, n, c, he, hO, _⟩ => ⟨a, n, c, he, by simpa using hO⟩
  obtain ⟨n, hn⟩ : ∃ n, n = l.length := ⟨_, rfl⟩
  rw [← hn] at HR0 HP0 ⊢
  clear hS hlc hcm hn
  obtain ⟨rt, hrt⟩ : ∃ rt, rt = rightF l := ⟨_, rfl⟩
  rw [← hrt] at HR0 HP0
  have HRT := hide hrt
  clear hrt
  go_enter Try.func12, Try.ntmps12
  go_wp2_with fail
  refine (unhide HR0).mono ?_
  rintro e w2 ⟨rfl, hb2⟩
  have HB2 := hide hb2
  clear hb2
  cases rt with
  | false =>
    go_wp2_with fail
    go_ret2
    exact ⟨none, 0, 0, 2, [], rfl, (Own.start _).fresh.1.1, unhide HB2, .inr ⟨(unhide HRT).symm, rfl, rfl, rfl⟩⟩
  | true =>
    go_wp2_with fail
    refine (unhide HP0 trivial _ (unhide HB2)).mono ?_
    rintro e w3 ⟨a3, n3, c3, rfl, hO⟩
    have HO := hide (hO.lift (unhide HB2))
    clear hO
    go_wp2_with fail
    go_ret2
    exact ⟨a3, n3, c3, 0, bytesF l, rfl, (unhide HO).fresh.1.1, (unhide HO).bb, .inl ⟨(unhide HRT).symm, rfl, rfl, unhide HO⟩⟩

set_option maxRecDepth 100000 in
set_option maxHeartbeats 2000000 in
theorem fPut_any (l : List FI) (B : Nat → Prop) (u : Value) (pa : Option Addr) (pn pc : Nat) (bs : List UInt8) (w : World) (h : FragAt B w l u) (hr : rightF l = true) (hp : Bytes w (.slice pa pn pc) bs) (hl : bs.length ≤ 1000000) : Calls Try.prog 23 #[.slice pa pn pc, u] w fun e w' => ∃ a n c, e = .returned (.slice a n c) ∧ Own w (.slice a n c) (bs ++ bytesF l) w' := by
  have HB0 := hide (fBytes_any l B u w h)
  have HLE := hide (bytesF_le hr)
  have HP := hide hp
  have HL := hide hl
  have HR := hide hr
  obtain ⟨hbl, -⟩ := bytes_len hp
  have HBL := hide hbl
  obtain ⟨a, c, rfl, -⟩ := h.form
  obtain ⟨n, hn⟩ : ∃ n, n = l.length := ⟨_, rfl⟩
  rw [← hn] at HB0 ⊢
  clear h hr hp hl hbl hn
  go_enter Try.func23, Try.ntmps23
  go_wp2_with fail
  refine (unhide HB0).mono ?_
  rintro e W2 ⟨ra, rn, rc, er, rs, rfl, hB, hb2, hor⟩
  rcases hor with ⟨-, rfl, rfl, -⟩ | ⟨hf, -⟩
  case inr => exact absurd (unhide HR) (by rw [hf]; simp)
  obtain ⟨hrl, -⟩ := bytes_len hB
  obtain ⟨W3, hW3⟩ : ∃ W3, W3 = W2.alloc (.cells #[.slice pa pn pc, .slice ra rn rc] 23) := ⟨_, rfl⟩
  have hb3 : Below W2.heap.size W2 W3 := by rw [hW3]; exact (Below.refl _ _).alloc (Nat.le_refl _) _
  have hr3 : W3.heap[W2.heap.size]? = some (.cells #[.slice pa pn pc, .slice ra rn rc] 23 (0, 0)) := by rw [hW3]; exact heap_alloc_new _ _
  have HB3 : Hid (Below w.heap.size w W3) := hb2.trans (hb3.mono hb2.size)
  have HRB : Hid (RowsB W3 W2.heap.size [bs, bytesF l]) := fun i x hx => by
    match i, hx with
    | 0, hx =>
      have hx : bs = x := by simpa using hx
      subst hx
      exact ⟨pa, pc, by rw [unhide HBL]; exact cell_of_row _ _ 0 _ _ _ hr3, by rw [unhide HBL]; exact (unhide HP).kept fun k _ hk => (unhide HB3).block k hk⟩
    | 1, hx =>
      have hx : bytesF l = x := by simpa using hx
      subst hx
      exact ⟨ra, rc, by rw [hrl]; exact cell_of_row _ _ 1 _ _ _ hr3, by rw [hrl]; exact hB.kept fun k _ hk => hb3.block k hk⟩
  have HC : Hid (Calls Try.prog 40 #[.slice (some ⟨W2.heap.size, 0, none⟩) 2 2] W3 fun e w' => ∃ a n c, e = .returned (.slice a n c) ∧ Own W3 (.slice a n c) (bs ++ bytesF l) w') := (concatV_any W2.heap.size 2 [bs, bytesF l] W3 (unhide HRB) (by unfold flatLen; have := unhide HL; have := unhide HLE; simp; omega) (by simp)).mono fun e w' ⟨v, he, hO⟩ => by
    obtain ⟨a, c, rfl, -⟩ := own_formS hO
    exact ⟨a, _, c, he, by simpa using hO⟩
  have HW3 := hide hW3
  clear hB hb2 hW3 hb3 hr3 HRB hrl
  go_wp2_with fail
  rw [← unhide HW3]
  refine (unhide HC).mono ?_
  rintro e W4 ⟨a4, n4, c4, rfl, hO4⟩
  have HO4 := hide (hO4.lift (unhide HB3))
  clear hO4
  go_wp2_with fail
  go_ret
  exact ⟨a4, n4, c4, rfl, unhide HO4⟩
end Go.Proofs.Yteggocgfaejmbaa

namespace Go.Proofs.Yteggocgfaejmbaa
open Go.RowKit

theorem eqL_take_succ {l m : List (List UInt8)} {j : Nat} (h : j < l.length) (h2 : j < m.length) (e : l.take j = m.take j) (he : l[j]'h = m[j]'h2) : l.take (j + 1) = m.take (j + 1) := by
  rw [List.take_succ_eq_append_getElem h, List.take_succ_eq_append_getElem h2, e, he]
theorem eqL_false {l m : List (List UInt8)} {j : Nat} (h : j < l.length) (h2 : j < m.length) (he : l[j]'h ≠ m[j]'h2) : l ≠ m := fun e => by
  subst e
  exact he rfl

set_option maxRecDepth 100000 in
set_option maxHeartbeats 2000000 in
theorem equalStr_any (l m : List (List UInt8)) (B B2 : Nat → Prop) (n n2 c c2 : Nat) (a a2 : Option Addr) (w : World) (hn : n = l.length) (hn2 : n2 = m.length) (hn6 : n ≤ maxLen) (hS : StrsAt B w a l) (hS2 : StrsAt B2 w a2 m) :
    Calls Try.prog 57 #[.slice a n c, .slice a2 n2 c2] w fun e w' => e = .returned (.bool (decide (l = m))) ∧ Below w.heap.size w w' := by
  have HN := hide hn
  have HN2 := hide hn2
  have HS := hide hS
  have HS2 := hide hS2
  have HB0 := hide (Below.refl w.heap.size w)
  unfold maxLen at hn6
  clear hn hn2 hS hS2
  by_cases hl : n = n2
  case neg =>
    have gl : (((n : Nat) : Int) == ((n2 : Nat) : Int)) = false := by rw [beq_eq_false_iff_ne]; omega
    have gl2 : (((n : Nat) : Int) != ((n2 : Nat) : Int)) = true := by rw [bne, gl]; rfl
    have gl3 : (n == n2) = false := beq_eq_false_iff_ne.2 hl
    have gl4 : (n != n2) = true := by rw [bne, gl3]; rfl
    have HD : Hid (decide (l = m) = false) := decide_eq_false fun e => hl (by rw [unhide HN, unhide HN2, e])
    clear hl
    go_enter Try.func57, Try.ntmps57
    go_wp2_with fail
    go_ret
    exact ⟨ret_bool (unhide HD).symm, unhide HB0⟩
  have gl : (((n : Nat) : Int) == ((n2 : Nat) : Int)) = true := by rw [beq_iff_eq]; omega
  have gl2 : (((n : Nat) : Int) != ((n2 : Nat) : Int)) = false := by rw [bne, gl]; rfl
  have gl3 : (n == n2) = true := beq_iff_eq.2 hl
  have gl4 : (n != n2) = false := by rw [bne, gl3]; rfl
  have HLL := hide hl
  clear hl
  go_enter Try.func57, Try.ntmps57
  go_wp2_with fail
  clear gl gl2 gl3 gl4
  go_loopw [13] (fun k W => ∃ j : Nat, j ≤ n ∧ k = .int .i64 ((j : Nat) : Int) ∧ l.take j = m.take j ∧ Below w.heap.size w W) (fun k _ => n - (intOf k).toNat)
  case atStart => exact ⟨0, by omega, rfl, by simp, unhide HB0⟩
  case round =>
    obtain ⟨j, hj, rfl, hkt, hb⟩ := hrel
    have HB := hide hb
    have HKT := hide hkt
    have hk : ∀ {p : Addr} {x : Value}, w.cell? p = some x → wr.cell? p = some x := fun hx => (hb.cell (World.block_lt_of_cell? _ _ hx)).trans hx
    by_cases hlt : j < n
    · have hji : ((j : Nat) : Int) < ((n : Nat) : Int) := by omega
      have hjl : j < l.length := by have := unhide HN; omega
      have hjl2 : j < m.length := by have := unhide HN2; have := unhide HLL; omega
      have hjn2 : j < n2 := by have := unhide HLL; omega
      have hji2 : ((j : Nat) : Int) < ((n2 : Nat) : Int) := by omega
      obtain ⟨b, o, rfl, _, x0, _⟩ := unhide HS j hjl
      obtain ⟨b', o', rfl, _, y0, _⟩ := unhide HS2 j hjl2
      have p0 := hk x0
      have q0 := hk y0
      have hse := str_eq l[j] m[j]
      have HTS := hide (eqL_take_succ hjl hjl2 hkt)
      have HTF := hide (eqL_false hjl hjl2)
      obtain ⟨q, hq⟩ : ∃ q, q = decide (l[j] = m[j]) := ⟨_, rfl⟩
      rw [← hq] at hse
      have HQ := hide hq
      generalize (⟨l[j].toArray⟩ : ByteArray) = z1 at *
      generalize (⟨m[j].toArray⟩ : ByteArray) = z2 at *
      have hsn : (z1.toList != z2.toList) = !q := by rw [bne, hse]
      clear x0 y0 hkt hb hk hq HKT
      cases q with
      | true =>
        have HT : Hid (l.take (j + 1) = m.take (j + 1)) := unhide HTS (of_decide_eq_true (unhide HQ).symm)
        have hsn : (z1.toList != z2.toList) = false := hsn
        go_upto_region 6 with fail
        go_quiet (fail)
        go_wp2_with fail
        exact ⟨⟨j + 1, by omega, by go_num, unhide HT, (unhide HB).trans ((below_drewN _ _).mono (unhide HB).size)⟩, by simp [intOf]; omega⟩
      | false =>
        have HD : Hid (decide (l = m) = false) := decide_eq_false (unhide HTF (of_decide_eq_false (unhide HQ).symm))
        have hsn : (z1.toList != z2.toList) = true := hsn
        go_upto_region 6 with fail
        go_quiet (fail)
        go_wp2_with fail
        go_ret
        exact ⟨ret_bool (unhide HD).symm, (unhide HB).trans ((below_drewN _ _).mono (unhide HB).size)⟩
    · have e : j = n := by omega
      have hji : ¬ ((j : Nat) : Int) < ((n : Nat) : Int) := by omega
      have HD : Hid (decide (l = m) = true) := by
        refine decide_eq_true ?_
        have h := hkt
        rwa [List.take_of_length_le (by have := unhide HN; omega), List.take_of_length_le (by have := unhide HN2; have := unhide HLL; omega)] at h
      clear e hk hkt hb HKT
      go_wp2_with fail
      go_ret
      exact ⟨ret_bool (unhide HD).symm, unhide HB⟩

theorem FI.same_parts (x y : FI) : x.same y = (decide (x.name = y.name) && (decide (x.k = y.k) && (decide (x.after = y.after) && (decide (x.over = y.over) && (decide (x.width = y.width) && decide (x.quota = y.quota)))))) := by
  unfold FI.same
  simp only [Bool.and_assoc]

set_option maxRecDepth 100000 in
set_option maxHeartbeats 4000000 in
theorem sameItem_any (x y : FI) (B B2 : Nat → Prop) (u u2 : Value) (w : World) (h : x.At B w u) (h2 : y.At B2 w u2) : Calls Try.prog 33 #[u, u2] w fun e w' => e = .returned (.bool (x.same y)) ∧ Below w.heap.size w w' := by
  obtain ⟨z, K, pa, pn, pc, zo, wd, qt, rfl⟩ := h.form
  obtain ⟨z2, K2, pa2, pn2, pc2, zo2, wd2, qt2, rfl⟩ := h2.form
  have hp := h.parts
  have hp2 := h2.parts
  obtain ⟨W0, hW0⟩ : ∃ W0, W0 = w.alloc (.cells #[.string z, .int .u8 ((K : Nat) : Int), .slice pa pn pc, .string zo, .int .i64 wd, .int .i64 qt] 47) := ⟨_, rfl⟩
  obtain ⟨W1, hW1⟩ : ∃ W1, W1 = W0.alloc (.cells #[.string z2, .int .u8 ((K2 : Nat) : Int), .slice pa2 pn2 pc2, .string zo2, .int .i64 wd2, .int .i64 qt2] 47) := ⟨_, rfl⟩
  have hb0 : Below w.heap.size w W0 := by rw [hW0]; exact (Below.refl _ w).alloc (Nat.le_refl _) _
  have hb01 : Below W0.heap.size W0 W1 := by rw [hW1]; exact (Below.refl _ W0).alloc (Nat.le_refl _) _
  have hb1 : Below w.heap.size w W1 := hb0.trans (hb01.mono hb0.size)
  have hs0 : W0.heap.size = w.heap.size + 1 := by rw [hW0]; simp
  have hr0 : W0.heap[w.heap.size]? = some (.cells #[.string z, .int .u8 ((K : Nat) : Int), .slice pa pn pc, .string zo, .int .i64 wd, .int .i64 qt] 47 (0, 0)) := by rw [hW0]; exact heap_alloc_new w _
  have hr1 : W1.heap[w.heap.size + 1]? = some (.cells #[.string z2, .int .u8 ((K2 : Nat) : Int), .slice pa2 pn2 pc2, .string zo2, .int .i64 wd2, .int .i64 qt2] 47 (0, 0)) := by rw [hW1, ← hs0]; exact heap_alloc_new W0 _
  have hr01 := (hb01.block _ (Array.getElem?_eq_some_iff.1 hr0).1).trans hr0
  obtain ⟨a0, a1, a2, a3, a4, a5⟩ := cells6 hr01
  obtain ⟨b0, b1, b2, b3, b4, b5⟩ := cells6 hr1
  have HB1 := hide hb1
  rw [hW0] at hW1
  have HW1 := hide hW1
  have hE := equalStr_any x.after y.after B B2 pn pn2 pc pc2 pa pa2 W1 hp.an hp2.an (Nat.le_trans hp.le hp.cm) (hp.strs.kept (fun k _ hk => hb1.block k hk) (fun _ h _ => h)) (hp2.strs.kept (fun k _ hk => hb1.block k hk) (fun _ h _ => h))
  have HE := hide hE
  have hse := str_eq x.name y.name
  have hso := str_eq x.over y.over
  rw [← hp.nm, ← hp2.nm] at hse
  rw [← hp.ov, ← hp2.ov] at hso
  have HV : Hid (x.same y = (decide (x.name = y.name) && (decide (K = K2) && (decide (x.after = y.after) && (decide (x.over = y.over) && (decide (wd = wd2) && decide (qt = qt2))))))) := by show _ = _; rw [FI.same_parts, hp.kd, hp2.kd, hp.wd, hp2.wd, hp.qt, hp2.qt]
  generalize decide (x.name = y.name) = en at *
  generalize decide (x.over = y.over) = eo at *
  generalize decide (x.after = y.after) = ea at *
  generalize x.same y = R at *
  clear h h2 hp hp2 hb0 hb01 hb1 hs0 hr0 hr1 hr01 hW0 hW1 hE
  go_enter Try.func33, Try.ntmps33
  go_upto_region 1 with fail
  rw [← unhide HW1]
  clear HW1
  cases en with
  | false =>
    go_wp2_with fail
    go_ret
    exact ⟨ret_bool (unhide HV).symm, unhide HB1⟩
  | true =>
    by_cases hk : K = K2
    case neg =>
      have gk : (((K : Nat) : Int) == ((K2 : Nat) : Int)) = false := by rw [beq_eq_false_iff_ne]; omega
      have gk3 : (K == K2) = false := beq_eq_false_iff_ne.2 hk
      have HV2 : Hid (R = false) := by show _ = _; rw [unhide HV, decide_eq_false hk]; simp
      clear hk
      go_wp2_with fail
      go_ret
      exact ⟨ret_bool (unhide HV2).symm, unhide HB1⟩
    have gk : (((K : Nat) : Int) == ((K2 : Nat) : Int)) = true := by rw [beq_iff_eq]; omega
    have gk3 : (K == K2) = true := beq_iff_eq.2 hk
    have HV2 : Hid (R = (ea && (eo && (decide (wd = wd2) && decide (qt = qt2))))) := by show _ = _; rw [unhide HV, decide_eq_true hk]; simp
    clear hk HV
    go_wp2_with fail
    refine (unhide HE).mono ?_
    rintro e w2 ⟨rfl, hb2⟩
    have HB2 := hide ((unhide HB1).trans (hb2.mono (unhide HB1).size))
    have k3 := (hb2.cell (World.block_lt_of_cell? _ _ a3)).trans a3
    have k4 := (hb2.cell (World.block_lt_of_cell? _ _ a4)).trans a4
    have k5 := (hb2.cell (World.block_lt_of_cell? _ _ a5)).trans a5
    have m3 := (hb2.cell (World.block_lt_of_cell? _ _ b3)).trans b3
    have m4 := (hb2.cell (World.block_lt_of_cell? _ _ b4)).trans b4
    have m5 := (hb2.cell (World.block_lt_of_cell? _ _ b5)).trans b5
    clear hb2 a0 a1 a2 a3 a4 a5 b0 b1 b2 b3 b4 b5
    cases ea with
    | false =>
      go_wp2_with fail
      go_ret
      exact ⟨ret_bool (unhide HV2).symm, unhide HB2⟩
    | true =>
      cases eo with
      | false =>
        go_wp2_with fail
        go_ret
        exact ⟨ret_bool (unhide HV2).symm, unhide HB2⟩
      | true =>
        by_cases hw : wd = wd2
        case neg =>
          have gw : (wd == wd2) = false := beq_eq_false_iff_ne.2 hw
          have HV3 : Hid (R = false) := by show _ = _; rw [unhide HV2, decide_eq_false hw]; simp
          clear hw
          go_wp2_with fail
          go_ret
          exact ⟨ret_bool (unhide HV3).symm, unhide HB2⟩
        have gw : (wd == wd2) = true := beq_iff_eq.2 hw
        have HV3 : Hid (R = decide (qt = qt2)) := by show _ = _; rw [unhide HV2, decide_eq_true hw]; simp
        clear hw
        by_cases hq : qt = qt2
        · have gq : (qt == qt2) = true := beq_iff_eq.2 hq
          have HV4 : Hid (R = true) := by show _ = _; rw [unhide HV3, decide_eq_true hq]
          clear hq
          go_wp2_with fail
          go_ret
          exact ⟨ret_bool (unhide HV4).symm, unhide HB2⟩
        · have gq : (qt == qt2) = false := beq_eq_false_iff_ne.2 hq
          have HV4 : Hid (R = false) := by show _ = _; rw [unhide HV3, decide_eq_false hq]
          clear hq
          go_wp2_with fail
          go_ret
          exact ⟨ret_bool (unhide HV4).symm, unhide HB2⟩

theorem sameF_take_succ : ∀ {l m : List FI} {j : Nat} (h : j < l.length) (h2 : j < m.length), sameF (l.take (j + 1)) (m.take (j + 1)) = (sameF (l.take j) (m.take j) && (l[j]'h).same (m[j]'h2))
  | x :: l, y :: m, 0, _, _ => by simp [sameF]
  | x :: l, y :: m, j + 1, h, h2 => by
    have := sameF_take_succ (l := l) (m := m) (j := j) (by simpa using h) (by simpa using h2)
    simp only [List.take_succ_cons, sameF, List.getElem_cons_succ]
    rw [this, Bool.and_assoc]
theorem sameF_at_false {l m : List FI} {j : Nat} (h : j < l.length) (h2 : j < m.length) (he : (l[j]'h).same (m[j]'h2) = false) : sameF l m = false := sameF_false fun e => by
  subst e
  rw [(FI.same_iff _ _).2 rfl] at he
  cases he
theorem sameF_length {l m : List FI} (h : l.length ≠ m.length) : sameF l m = false := sameF_false fun e => h (by rw [e])

set_option maxRecDepth 100000 in
set_option maxHeartbeats 4000000 in
theorem equalItems_any (l l2 : List FI) (B B2 : Nat → Prop) (n n2 c c2 : Nat) (a a2 : Option Addr) (w : World) (hn : n = l.length) (hn2 : n2 = l2.length) (hn6 : n ≤ maxLen) (hE : ItemsAt B w a l) (hE2 : ItemsAt B2 w a2 l2) :
    Calls Try.prog 32 #[.slice a n c, .slice a2 n2 c2, .func (.func 33) #[] #[]] w fun e w' => e = .returned (.bool (sameF l l2)) ∧ Below w.heap.size w w' := by
  have HN := hide hn
  have HN2 := hide hn2
  have HE := hide hE
  have HE2 := hide hE2
  have HB0 : Hid (Below w.heap.size w w) := Below.refl _ _
  unfold maxLen at hn6
  clear hn hn2 hE hE2
  by_cases hl : n = n2
  case neg =>
    have gl : (((n : Nat) : Int) == ((n2 : Nat) : Int)) = false := by rw [beq_eq_false_iff_ne]; omega
    have gl2 : (((n : Nat) : Int) != ((n2 : Nat) : Int)) = true := by rw [bne, gl]; rfl
    have gl3 : (n == n2) = false := beq_eq_false_iff_ne.2 hl
    have gl4 : (n != n2) = true := by rw [bne, gl3]; rfl
    have HD : Hid (sameF l l2 = false) := sameF_length (by rw [← unhide HN, ← unhide HN2]; exact hl)
    clear hl
    go_enter Try.func32, Try.ntmps32
    go_wp2_with fail
    go_ret
    exact ⟨ret_bool (unhide HD).symm, unhide HB0⟩
  have gl : (((n : Nat) : Int) == ((n2 : Nat) : Int)) = true := by rw [beq_iff_eq]; omega
  have gl2 : (((n : Nat) : Int) != ((n2 : Nat) : Int)) = false := by rw [bne, gl]; rfl
  have gl3 : (n == n2) = true := beq_iff_eq.2 hl
  have gl4 : (n != n2) = false := by rw [bne, gl3]; rfl
  have HLL := hide hl
  clear hl
  go_enter Try.func32, Try.ntmps32
  go_wp2_with fail
  clear gl gl2 gl3 gl4
  go_loopw [17] (fun k W => ∃ j : Nat, j ≤ n ∧ k = .int .i64 ((j : Nat) : Int) ∧ sameF (l.take j) (l2.take j) = true ∧ Below w.heap.size w W) (fun k _ => n - (intOf k).toNat)
  case atStart => exact ⟨0, by omega, rfl, rfl, unhide HB0⟩
  case round =>
    obtain ⟨j, hj, rfl, hkt, hb⟩ := hrel
    have HB := hide hb
    have HKT := hide hkt
    have hk : ∀ {p : Addr} {x : Value}, w.cell? p = some x → wr.cell? p = some x := fun hx => (hb.cell (World.block_lt_of_cell? _ _ hx)).trans hx
    by_cases hlt : j < n
    · have hji : ((j : Nat) : Int) < ((n : Nat) : Int) := by omega
      have hjl : j < l.length := by have := unhide HN; omega
      have hjl2 : j < l2.length := by have := unhide HN2; have := unhide HLL; omega
      have hjn2 : j < n2 := by have := unhide HLL; omega
      have hji2 : ((j : Nat) : Int) < ((n2 : Nat) : Int) := by omega
      obtain ⟨b, o, z, K, pa, pn, pc, zo, wd, qt, rfl, _, x0, x1, x2, x3, x4, x5, he⟩ := (unhide HE j hjl).out
      obtain ⟨b', o', z', K', pa', pn', pc', zo', wd', qt', rfl, _, y0, y1, y2, y3, y4, y5, he'⟩ := (unhide HE2 j hjl2).out
      have p0 := hk x0
      have p1 := hk x1
      have p2 := hk x2
      have p3 := hk x3
      have p4 := hk x4
      have p5 := hk x5
      obtain ⟨W4, hW4⟩ : ∃ W4, W4 = wr.alloc (.cells #[.string z, .int .u8 ((K : Nat) : Int), .slice pa pn pc, .string zo, .int .i64 wd, .int .i64 qt] 47) := ⟨_, rfl⟩
      obtain ⟨W5, hW5⟩ : ∃ W5, W5 = W4.alloc (.cells #[.string z', .int .u8 ((K' : Nat) : Int), .slice pa' pn' pc', .string zo', .int .i64 wd', .int .i64 qt'] 47) := ⟨_, rfl⟩
      have hb4 : Below wr.heap.size wr W4 := by rw [hW4]; exact (Below.refl _ _).alloc (Nat.le_refl _) _
      have hb45 : Below W4.heap.size W4 W5 := by rw [hW5]; exact (Below.refl _ _).alloc (Nat.le_refl _) _
      have hr4 : W4.heap[wr.heap.size]? = some (.cells #[.string z, .int .u8 ((K : Nat) : Int), .slice pa pn pc, .string zo, .int .i64 wd, .int .i64 qt] 47 (0, 0)) := by rw [hW4]; exact heap_alloc_new wr _
      have hr5 : W5.heap[W4.heap.size]? = some (.cells #[.string z', .int .u8 ((K' : Nat) : Int), .slice pa' pn' pc', .string zo', .int .i64 wd', .int .i64 qt'] 47 (0, 0)) := by rw [hW5]; exact heap_alloc_new W4 _
      have hb04 : Below w.heap.size w W4 := hb.trans (hb4.mono hb.size)
      have hb05 : Below w.heap.size w W5 := hb04.trans (hb45.mono hb04.size)
      have hk4 : ∀ {p : Addr} {x : Value}, w.cell? p = some x → W4.cell? p = some x := fun hx => (hb04.cell (World.block_lt_of_cell? _ _ hx)).trans hx
      have q0 := hk4 y0
      have q1 := hk4 y1
      have q2 := hk4 y2
      have q3 := hk4 y3
      have q4 := hk4 y4
      have q5 := hk4 y5
      have hr45 := (hb45.block _ (Array.getElem?_eq_some_iff.1 hr4).1).trans hr4
      obtain ⟨i0, i1, i2, i3, i4, i5⟩ := cells6 hr45
      obtain ⟨j0, j1, j2, j3, j4, j5⟩ := cells6 hr5
      have HC := hide (sameItem_any l[j] l2[j] B B2 _ _ W5 (he.later hb05) (he'.later hb05))
      have HTS := hide (sameF_take_succ hjl hjl2)
      have HFL := hide (sameF_at_false hjl hjl2)
      generalize (l[j]).same (l2[j]) = p at *
      have HW4 := hide hW4
      have HW5 := hide hW5
      have HB5 := hide hb05
      clear he he' hk hk4 x0 x1 x2 x3 x4 x5 y0 y1 y2 y3 y4 y5 hkt hb hb4 hb45 hr4 hr5 hr45 hb04 hb05 hW4 hW5
      go_upto_region 6 with fail
      rw [← unhide HW4]
      clear HW4 p0 p1 p2 p3 p4 p5
      go_upto_region 7 with fail
      rw [← unhide HW5]
      clear HW5 q0 q1 q2 q3 q4 q5
      go_wp2_with fail
      refine (unhide HC).mono ?_
      rintro e W6 ⟨rfl, hb6⟩
      have HB6 := hide ((unhide HB5).trans (hb6.mono (unhide HB5).size))
      clear hb6 i0 i1 i2 i3 i4 i5 j0 j1 j2 j3 j4 j5
      cases p with
      | true =>
        go_wp2_with fail
        exact ⟨⟨j + 1, by omega, by go_num, by rw [unhide HTS, unhide HKT]; rfl, unhide HB6⟩, by simp [intOf]; omega⟩
      | false =>
        have HD : Hid (sameF l l2 = false) := unhide HFL rfl
        go_wp2_with fail
        go_ret
        exact ⟨ret_bool (unhide HD).symm, unhide HB6⟩
    · have e : j = n := by omega
      have hji : ¬ ((j : Nat) : Int) < ((n : Nat) : Int) := by omega
      have HD : Hid (sameF l l2 = true) := by
        show _ = _
        rw [← unhide HKT, List.take_of_length_le (by have := unhide HN; omega), List.take_of_length_le (by have := unhide HN2; have := unhide HLL; omega)]
      clear e hk hkt hb
      go_wp2_with fail
      go_ret
      exact ⟨ret_bool (unhide HD).symm, unhide HB⟩

set_option maxHeartbeats 1000000 in
theorem fSame_any (l l2 : List FI) (B B2 : Nat → Prop) (u u2 : Value) (w : World) (h : FragAt B w l u) (h2 : FragAt B2 w l2 u2) : Calls Try.prog 16 #[u, u2] w fun e w' => e = .returned (.bool (sameF l l2)) ∧ Below w.heap.size w w' := by
  obtain ⟨a, c, rfl, hlc, hcm, hS⟩ := h
  obtain ⟨a2, c2, rfl, hlc2, hcm2, hS2⟩ := h2
  obtain ⟨n, hn⟩ : ∃ n, n = l.length := ⟨_, rfl⟩
  obtain ⟨n2, hn2⟩ : ∃ n, n = l2.length := ⟨_, rfl⟩
  have HC := hide (equalItems_any l l2 B B2 n n2 c c2 a a2 w hn hn2 (by rw [hn]; exact Nat.le_trans hlc hcm) hS hS2)
  rw [← hn, ← hn2]
  clear hlc hcm hS hlc2 hcm2 hS2 hn hn2
  go_enter Try.func16, Try.ntmps16
  go_wp2_with fail
  refine (unhide HC).mono ?_
  rintro e w2 ⟨rfl, hb⟩
  have HB := hide hb
  clear hb
  go_wp2_with fail
  go_ret
  exact ⟨rfl, unhide HB⟩
end Go.Proofs.Yteggocgfaejmbaa

namespace Go.Proofs.Yteggocgfaejmbaa
open Go.RowKit

/-- What TakeNum tells, in memory. -/
def TookNumM (n : Nat) (bs : List UInt8) (e : Ending) (W : World) : Prop :=
  (∃ (x : Int) (k : Nat) (ra : Option Addr) (rc : Nat), Reads bs x k ∧ Bytes W (.slice ra (n - k) rc) (bs.drop k) ∧ e = .returned (.tuple #[.int .i64 x, .slice ra (n - k) rc, .int .i64 0])) ∨
  (NoNum bs ∧ e = .returned (.tuple #[.int .i64 0, .slice none 0 0, .int .i64 30]))
/-- What TakeText tells, in memory. -/
def TookTextM (n : Nat) (bs : List UInt8) (most : Int) (e : Ending) (W : World) : Prop :=
  (∃ (s : List UInt8) (k : Nat) (ra : Option Addr) (rc : Nat), ReadsT bs most s k ∧ Bytes W (.slice ra (n - k - s.length) rc) (bs.drop (k + s.length)) ∧ e = .returned (.tuple #[.string ⟨s.toArray⟩, .slice ra (n - k - s.length) rc, .int .i64 0])) ∨
  (NoText bs most ∧ e = .returned (.tuple #[.string ⟨#[]⟩, .slice none 0 0, .int .i64 30]))

structure WireOk : Prop where
  size : ∀ n w, InR n → Calls Try.prog 81 #[.int .i64 n] w fun e w' => e = .returned (.int .i64 ((numB n).length : Nat)) ∧ Below w.heap.size w w'
  num : ∀ u bs n w, InR n → Bytes w u bs → bs.length ≤ 1048576 → Calls Try.prog 69 #[u, .int .i64 n] w fun e w' => ∃ v, e = .returned v ∧ Own w v (bs ++ numB n) w'
  text : ∀ u bs s w, Bytes w u bs → bs.length ≤ 1048576 → s.length ≤ 1048576 → Calls Try.prog 70 #[u, .string ⟨s.toArray⟩] w fun e w' => ∃ v, e = .returned v ∧ Own w v (bs ++ textB s) w'
  takeNum : ∀ a n c bs w, Bytes w (.slice a n c) bs → n ≤ 1048576 → Calls Try.prog 74 #[.slice a n c] w fun e w' => TookNumM n bs e w' ∧ Below w.heap.size w w'
  takeText : ∀ a n c bs most w, Bytes w (.slice a n c) bs → n ≤ 1048576 → InR most → Calls Try.prog 76 #[.slice a n c, .int .i64 most] w fun e w' => TookTextM n bs most e w' ∧ Below w.heap.size w w'

set_option maxHeartbeats 400000 in
theorem wSame_any (u1 u2 : Value) (b1 b2 : List UInt8) (w : World) (h1 : Bytes w u1 b1) (h2 : Bytes w u2 b2) : Calls Try.prog 18 #[u1, u2] w fun e w' => e = .returned (.bool (decide (b1 = b2))) ∧ w' = w := by
  have c1 := run_convert_bytes (P := Try.prog) w 23 9 5 Try.underlying23 Try.underlying5 Try.underlying9 u1 b1 h1
  have c2 := run_convert_bytes (P := Try.prog) w 23 9 5 Try.underlying23 Try.underlying5 Try.underlying9 u2 b2 h2
  have e0 : ((⟨b1.toArray⟩ : ByteArray).toList == (⟨b2.toArray⟩ : ByteArray).toList) = decide (b1 = b2) := by
    rw [ByteArray.toList_eq, ByteArray.toList_eq, Bool.eq_iff_iff]; simp
  have HE : Hid (((⟨b1.toArray⟩ : ByteArray).toList == (⟨b2.toArray⟩ : ByteArray).toList) = decide (b1 = b2)) := e0
  clear e0 h1 h2
  generalize (⟨b1.toArray⟩ : ByteArray) = s1 at *
  generalize (⟨b2.toArray⟩ : ByteArray) = s2 at *
  go_enter Try.func18, Try.ntmps18
  go_wp2
  go_ret
  exact ⟨ret_bool HE.out, rfl⟩
theorem wSame_true (u1 u2 : Value) (bs : List UInt8) (w : World) (h1 : Bytes w u1 bs) (h2 : Bytes w u2 bs) : Calls Try.prog 18 #[u1, u2] w fun e w' => e = .returned (.bool true) ∧ w' = w := by
  refine (wSame_any u1 u2 bs bs w h1 h2).mono ?_
  rintro e w' ⟨rfl, hw⟩
  exact ⟨by rw [decide_eq_true rfl], hw⟩
theorem wSame_false (u1 u2 : Value) (b1 b2 : List UInt8) (w : World) (h1 : Bytes w u1 b1) (h2 : Bytes w u2 b2) (hne : b1 ≠ b2) : Calls Try.prog 18 #[u1, u2] w fun e w' => e = .returned (.bool false) ∧ w' = w := by
  refine (wSame_any u1 u2 b1 b2 w h1 h2).mono ?_
  rintro e w' ⟨rfl, hw⟩
  exact ⟨by rw [decide_eq_false hne], hw⟩
end Go.Proofs.Yteggocgfaejmbaa

namespace Go.Proofs.Yteggocgfaejmbaa
open Go.RowKit

theorem bytes_blockF {w : World} {g n : Nat} {t : TypeId} {bs : List UInt8} {fz : Nat × Nat} (h : w.heap[g]? = some (.cells (bs.map bv).toArray t fz)) (hn : bs.length = n) (hm : n ≤ maxLen) : Bytes w (.slice (some ⟨g, 0, none⟩) n n) bs := by
  subst hn
  refine .inr ⟨⟨g, 0, none⟩, bs.length, rfl, Nat.le_refl _, hm, fun j x hx => ?_⟩
  rw [Addr.add_mid, Nat.zero_add, cell_of_row _ _ _ _ _ _ h]
  simpa using hx
def exFA : FI := ⟨[97], 0, [], [], 0, 0⟩
def exFM : FI := ⟨[109], 1, [[98]], [97], 3, 1⟩
theorem ex_n0 : numB 0 = [0] := by show grp 0 = _; simp [grp]
theorem ex_n1 : numB 1 = [2] := by show grp 2 = _; simp [grp]
theorem ex_n3 : numB 3 = [6] := by show grp 6 = _; simp [grp]
theorem ex_f0 : bytesF [] = [0] := by
  show numB 0 ++ [] = _
  rw [ex_n0]; rfl
theorem ex_fA : bytesF [exFA] = [2, 2, 97, 0, 0, 0] := by
  show numB 1 ++ (((numB 1 ++ [97]) ++ (numB 0 ++ (numB 0 ++ ([] ++ (numB 0 ++ []))))) ++ []) = _
  rw [ex_n0, ex_n1]; rfl
theorem ex_fM : bytesF [exFM] = [2, 2, 109, 2, 2, 2, 98, 2, 2, 97, 6] := by
  show numB 1 ++ (((numB 1 ++ [109]) ++ (numB 1 ++ (numB 1 ++ (((numB 1 ++ [98]) ++ []) ++ (numB 1 ++ ((numB 1 ++ [97]) ++ numB 3)))))) ++ []) = _
  rw [ex_n1, ex_n3]; rfl
theorem ex_rA : rightF [exFA] = true := by decide
theorem ex_rM : rightF [exFM] = true := by decide
theorem ex_atA {W : World} {g : Nat} (h : W.heap[g]? = some (.cells #[.string ⟨#[97]⟩, .int .u8 0, .slice none 0 0, .string ⟨#[]⟩, .int .i64 0, .int .i64 0] 47 (0, 0))) : FragAt (fun _ => True) W [exFA] (.slice (some ⟨g, 0, none⟩) 1 1) := by
  obtain ⟨c0, c1, c2, c3, c4, c5⟩ := cells6 h
  refine ⟨some ⟨g, 0, none⟩, 1, rfl, Nat.le_refl _, by unfold maxLen; omega, fun i hi => ?_⟩
  obtain rfl : i = 0 := by have : i < 1 := hi; omega
  exact ⟨g, 0, none, 0, rfl, trivial, ⟨c0, c1, c2, c3, c4, c5⟩, ⟨by unfold maxLen exFA; simp, by show (0 : Nat) < 256; omega, Nat.zero_le _, by show InR 0; unfold InR; omega, by show InR 0; unfold InR; omega⟩, Nat.le_refl _, Nat.zero_le _, StrsAt.nil _ _ _⟩
theorem ex_atM {W : World} {g s : Nat} (h : W.heap[g]? = some (.cells #[.string ⟨#[109]⟩, .int .u8 1, .slice (some ⟨s, 0, none⟩) 1 1, .string ⟨#[97]⟩, .int .i64 3, .int .i64 1] 47 (0, 0))) (hs : W.heap[s]? = some (.cells #[.string ⟨#[98]⟩] 9 (0, 0))) : FragAt (fun _ => True) W [exFM] (.slice (some ⟨g, 0, none⟩) 1 1) := by
  obtain ⟨c0, c1, c2, c3, c4, c5⟩ := cells6 h
  refine ⟨some ⟨g, 0, none⟩, 1, rfl, Nat.le_refl _, by unfold maxLen; omega, fun i hi => ?_⟩
  obtain rfl : i = 0 := by have : i < 1 := hi; omega
  refine ⟨g, 0, some ⟨s, 0, none⟩, 1, rfl, trivial, ⟨c0, c1, c2, c3, c4, c5⟩, ⟨by unfold maxLen exFM; simp, by show (1 : Nat) < 256; omega, by unfold maxLen exFM; simp, by show InR 3; unfold InR; omega, by show InR 1; unfold InR; omega⟩, Nat.le_refl _, by unfold maxLen; omega, fun j hj => ?_⟩
  obtain rfl : j = 0 := by have : j < 1 := hj; omega
  exact ⟨s, 0, rfl, trivial, cell_of_row _ _ 0 _ _ _ hs, by unfold maxLen; exact of_decide_eq_true rfl⟩

/-- What is told of a fragment of a right form. -/
theorem bytesM_right {l : List FI} {w : World} {e : Ending} {w' : World} (h : BytesM l w e w') (hr : rightF l = true) : ∃ (pa : Option Addr) (pn pc : Nat), e = .returned (.tuple #[.slice pa pn pc, .int .i64 0]) ∧ Bytes w' (.slice pa pn pc) (bytesF l) ∧ Below w.heap.size w w' := by
  obtain ⟨pa, pn, pc, er, rs, rfl, hB, hb, ⟨_, rfl, rfl, _⟩ | ⟨hf, _⟩⟩ := h
  · exact ⟨pa, pn, pc, rfl, hB, hb⟩
  · rw [hr] at hf; cases hf

set_option maxRecDepth 100000 in
set_option maxHeartbeats 2000000 in
theorem awakeF_any (w : World) : Calls Try.prog 10 #[] w fun e w' => e = .returned (.bool true) ∧ Below w.heap.size w w' := by
  obtain ⟨o1, ho1⟩ : ∃ o1 : Obj, o1 = (.cells #[.string ⟨#[97]⟩, .int .u8 0, .slice none 0 0, .string ⟨#[]⟩, .int .i64 0, .int .i64 0] 47) := ⟨_, rfl⟩
  obtain ⟨o2, ho2⟩ : ∃ o2 : Obj, o2 = (.cells #[.string ⟨#[98]⟩] 9) := ⟨_, rfl⟩
  obtain ⟨o3, ho3⟩ : ∃ o3 : Obj, o3 = (.cells #[.string ⟨#[109]⟩, .int .u8 1, .slice (some ⟨w.heap.size + 1, 0, none⟩) 1 1, .string ⟨#[97]⟩, .int .i64 3, .int .i64 1] 47) := ⟨_, rfl⟩
  obtain ⟨w1, hw1⟩ : ∃ w1, w1 = w.alloc o1 := ⟨_, rfl⟩
  obtain ⟨w2, hw2⟩ : ∃ w2, w2 = w1.alloc o2 := ⟨_, rfl⟩
  obtain ⟨w3, hw3⟩ : ∃ w3, w3 = w2.alloc o3 := ⟨_, rfl⟩
  have hs1 : w1.heap.size = w.heap.size + 1 := by rw [hw1]; simp
  have hs2 : w2.heap.size = w.heap.size + 1 + 1 := by rw [hw2]; simp [hs1]
  have hb1 : Below w.heap.size w w1 := by rw [hw1]; exact (Below.refl _ _).alloc (Nat.le_refl _) _
  have hb2 : Below w1.heap.size w1 w2 := by rw [hw2]; exact (Below.refl _ _).alloc (Nat.le_refl _) _
  have hb3 : Below w2.heap.size w2 w3 := by rw [hw3]; exact (Below.refl _ _).alloc (Nat.le_refl _) _
  have hg1 : w1.heap[w.heap.size]? = some o1 := by rw [hw1]; exact heap_alloc_new _ _
  have hg2 : w2.heap[w.heap.size + 1]? = some o2 := by rw [hw2, ← hs1]; exact heap_alloc_new _ _
  have hg3 : w3.heap[w.heap.size + 1 + 1]? = some o3 := by rw [hw3, ← hs2]; exact heap_alloc_new _ _
  have hg13 : w3.heap[w.heap.size]? = some o1 := (hb3.block _ (by omega)).trans ((hb2.block _ (by omega)).trans hg1)
  have hg23 : w3.heap[w.heap.size + 1]? = some o2 := (hb3.block _ (by omega)).trans hg2
  rw [ho1] at hg13
  rw [ho2] at hg23
  rw [ho3] at hg3
  have HA : Hid (∀ X, Below w3.heap.size w3 X → FragAt (fun _ => True) X [exFA] (.slice (some ⟨w.heap.size, 0, none⟩) 1 1)) := fun X hX => (ex_atA hg13).later hX
  have HM : Hid (∀ X, Below w3.heap.size w3 X → FragAt (fun _ => True) X [exFM] (.slice (some ⟨w.heap.size + 1 + 1, 0, none⟩) 1 1)) := fun X hX => (ex_atM hg3 hg23).later hX
  have HB3 : Hid (Below w.heap.size w w3) := hb1.trans ((hb2.trans (hb3.mono hb2.size)).mono hb1.size)
  rw [hw2, hw1, ho1, ho2, ho3] at hw3
  have HW3 := hide hw3
  clear hg1 hg2 hg3 hg13 hg23 hb1 hb2 hb3 hs1 hs2 hw1 hw2 hw3 ho1 ho2 ho3
  go_enter Try.func10, Try.ntmps10
  go_upto_region 3 with fail
  rw [← unhide HW3]
  clear HW3
  go_wp2_with fail
  refine (fBytes_any [] (fun _ => True) _ _ (FragAt.nil _ _)).mono ?_
  rintro e w4 h4
  obtain ⟨p1, n1, c1, rfl, hP1, hb4⟩ := bytesM_right h4 (by decide)
  have HP1 := hide hP1
  have HB4 := hide hb4
  clear h4 hP1 hb4
  go_wp2_with fail
  refine (fBytes_any [exFA] (fun _ => True) _ _ (unhide HA _ (unhide HB4))).mono ?_
  rintro e w5 h5
  obtain ⟨p2, n2, c2, rfl, hP2, hb5⟩ := bytesM_right h5 ex_rA
  have HP2 := hide hP2
  have HP1' := hide ((unhide HP1).laterW hb5)
  have HB5 := hide ((unhide HB4).trans (hb5.mono (unhide HB4).size))
  clear h5 hP2 hb5 HB4 HP1
  go_wp2_with fail
  refine (fBytes_any [exFM] (fun _ => True) _ _ (unhide HM _ (unhide HB5))).mono ?_
  rintro e w6 h6
  obtain ⟨p3, n3, c3, rfl, hP3, hb6⟩ := bytesM_right h6 ex_rM
  have HP3 := hide hP3
  have HP2' := hide ((unhide HP2).laterW hb6)
  have HP1 := hide ((unhide HP1').laterW hb6)
  have HB6 := hide ((unhide HB5).trans (hb6.mono (unhide HB5).size))
  clear h6 hP3 hb6 HB5 HP1' HP2
  go_wp2_with fail
  refine (fParse_any p3 n3 c3 _ _ (unhide HP3) (by have h := (bytes_len (unhide HP3)).1; rw [ex_fM] at h; simp at h; omega)).mono ?_
  rintro e w7 ⟨l7, a7, n7, c7, er7, rfl, hF7, hb7, hor⟩
  obtain ⟨rfl, rfl⟩ : er7 = 0 ∧ l7 = [exFM] := by
    have h0 := FReads.of (l := [exFM]) (r := []) (b := bytesF [exFM] ++ []) (by exact ex_rM) rfl
    rw [List.append_nil] at h0
    rcases hor with ⟨rfl, h⟩ | ⟨_, h, _⟩
    · exact ⟨rfl, (h.same h0).1⟩
    · exact absurd h0 (h _)
  have HF7 := hide hF7
  have HP3' := hide ((unhide HP3).laterW hb7)
  have HP2 := hide ((unhide HP2').laterW hb7)
  have HP1' := hide ((unhide HP1).laterW hb7)
  have HB7 := hide ((unhide HB6).trans (hb7.mono (unhide HB6).size))
  clear hF7 hb7 hor HB6 HP1 HP2' HP3 HA
  go_wp2_with fail
  obtain ⟨w8, hw8⟩ : ∃ w8, w8 = w7.alloc (.cells #[.int .u8 0] 5) := ⟨_, rfl⟩
  rw [← hw8]
  have hb8 : Below w7.heap.size w7 w8 := by rw [hw8]; exact (Below.refl _ _).alloc (Nat.le_refl _) _
  have hg8 : Bytes w8 (.slice (some ⟨w7.heap.size, 0, none⟩) 1 1) (bytesF []) := by rw [hw8, ex_f0]; exact bytes_blockF (heap_alloc_new _ _) rfl (by unfold maxLen; omega)
  refine (wSame_true _ _ _ _ ((unhide HP1').laterW hb8) hg8).mono ?_
  rintro e w8' ⟨rfl, hw⟩
  rw [hw]
  have HB8 := hide ((unhide HB7).trans (hb8.mono (unhide HB7).size))
  have HF8 := hide ((unhide HF7).later hb8)
  have HP3 := hide ((unhide HP3').laterW hb8)
  have HP2' := hide ((unhide HP2).laterW hb8)
  clear hw hw8 hb8 hg8 HB7 HF7 HP3' HP2 HP1' w8'
  go_wp2_with fail
  obtain ⟨w9, hw9⟩ : ∃ w9, w9 = w8.alloc (.cells #[.int .u8 2, .int .u8 2, .int .u8 97, .int .u8 0, .int .u8 0, .int .u8 0] 5) := ⟨_, rfl⟩
  rw [← hw9]
  have hb9 : Below w8.heap.size w8 w9 := by rw [hw9]; exact (Below.refl _ _).alloc (Nat.le_refl _) _
  have hg9 : Bytes w9 (.slice (some ⟨w8.heap.size, 0, none⟩) 6 6) (bytesF [exFA]) := by rw [hw9, ex_fA]; exact bytes_blockF (heap_alloc_new _ _) rfl (by unfold maxLen; omega)
  refine (wSame_true _ _ _ _ ((unhide HP2').laterW hb9) hg9).mono ?_
  rintro e w9' ⟨rfl, hw⟩
  rw [hw]
  have HB9 := hide ((unhide HB8).trans (hb9.mono (unhide HB8).size))
  have HF9 := hide ((unhide HF8).later hb9)
  have HP3' := hide ((unhide HP3).laterW hb9)
  clear hw hw9 hb9 hg9 HB8 HF8 HP3 HP2' w9'
  go_wp2_with fail
  obtain ⟨w10, hw10⟩ : ∃ w10, w10 = w9.alloc (.cells #[.int .u8 2, .int .u8 2, .int .u8 109, .int .u8 2, .int .u8 2, .int .u8 2, .int .u8 98, .int .u8 2, .int .u8 2, .int .u8 97, .int .u8 6] 5) := ⟨_, rfl⟩
  rw [← hw10]
  have hb10 : Below w9.heap.size w9 w10 := by rw [hw10]; exact (Below.refl _ _).alloc (Nat.le_refl _) _
  have hg10 : Bytes w10 (.slice (some ⟨w9.heap.size, 0, none⟩) 11 11) (bytesF [exFM]) := by rw [hw10, ex_fM]; exact bytes_blockF (heap_alloc_new _ _) rfl (by unfold maxLen; omega)
  refine (wSame_true _ _ _ _ ((unhide HP3').laterW hb10) hg10).mono ?_
  rintro e w10' ⟨rfl, hw⟩
  rw [hw]
  have HB10 := hide ((unhide HB9).trans (hb10.mono (unhide HB9).size))
  have HF10 := hide ((unhide HF9).later hb10)
  clear hw hw10 hb10 hg10 HB9 HF9 HP3' w10'
  go_wp2_with fail
  refine (fSame_any [exFM] [exFM] _ _ _ _ _ (unhide HF10) (unhide HM _ (unhide HB10))).mono ?_
  rintro e w11 ⟨rfl, hb11⟩
  rw [sameF_self]
  have HB11 := hide ((unhide HB10).trans (hb11.mono (unhide HB10).size))
  clear hb11 HB10 HF10 HM
  go_wp2_with fail
  refine (fName_any [65] _).mono ?_
  rintro e w12 ⟨rfl, hw⟩
  rw [hw, show nameB [65] = false by decide]
  clear hw w12
  go_wp2_with fail
  refine (fName_any [] _).mono ?_
  rintro e w12 ⟨rfl, hw⟩
  rw [hw, show nameB [] = false by decide]
  clear hw w12
  go_wp2_with fail
  refine (repeat_any 120 21 (by omega) _).mono ?_
  rintro e w12 ⟨rfl, hb12⟩
  have HB12 := hide ((unhide HB11).trans (hb12.mono (unhide HB11).size))
  clear hb12 HB11
  obtain ⟨xs, hxs⟩ : ∃ xs : List UInt8, xs = List.replicate 21 120 := ⟨_, rfl⟩
  have hxn : nameB xs = false := by rw [hxs]; decide
  rw [← hxs]
  have HXN := hide hxn
  clear hxs hxn
  go_wp2_with fail
  refine (fName_any xs _).mono ?_
  rintro e w13 ⟨rfl, hw⟩
  rw [hw, unhide HXN]
  clear hw w13
  go_wp2_with fail
  refine (fName_any [97, 95, 57] _).mono ?_
  rintro e w13 ⟨rfl, hw⟩
  rw [hw, show nameB [97, 95, 57] = true by decide]
  clear hw w13
  have HBF := hide ((unhide HB3).trans ((unhide HB12).mono (unhide HB3).size))
  go_wp2_with fail
  go_ret
  exact ⟨rfl, unhide HBF⟩
end Go.Proofs.Yteggocgfaejmbaa
