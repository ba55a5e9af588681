/- Load of package head, Save and Load of a disk that is none: the landed package answers as it should. No statement of the seat is proved here. -/
import Derived.Test.YtoabpjdpdcpdlaaHeadImplS
namespace Go.Proofs.Ytoabpjdpdcpdlaa
open Go.RowKit

theorem svHead {D0 : Nat → Prop} {w0 W : World} {M : List (Nat × Array Value)} {p : Nat} {A : AD} (h : Sv D0 w0 W M p A) (hd : A.dead = false) (i : Nat) (hi : i < 2) : Calls Try.prog 30 #[.pointer (some ⟨p, 0, none⟩), .int .i64 ((i : Nat) : Int)] W fun e W' => ∃ a c, e = .returned (.slice a 32 c) ∧ Bytes W' (.slice a 32 c) (A.sh i) ∧ Below W.heap.size W W' := by
  obtain ⟨D, v, h1, _⟩ := h.dsk
  refine (head_ok h1 hd i hi).mono ?_
  rintro e W' ⟨r, rfl, hF⟩
  obtain ⟨a, c, rfl, _⟩ := hF.1.form
  have hl : (A.sh i).length = 32 := h1.ok.sh i hi
  rw [hl] at hF ⊢
  exact ⟨a, c, rfl, hF.1, hF.2.2⟩
theorem svHead0 {D0 : Nat → Prop} {w0 W : World} {M : List (Nat × Array Value)} {p : Nat} {A : AD} (h : Sv D0 w0 W M p A) (hd : A.dead = false) : Calls Try.prog 30 #[.pointer (some ⟨p, 0, none⟩), .int .i64 0] W fun e W' => ∃ a c, e = .returned (.slice a 32 c) ∧ Bytes W' (.slice a 32 c) (A.sh 0) ∧ Below W.heap.size W W' := svHead h hd 0 (by decide)
theorem svHead1 {D0 : Nat → Prop} {w0 W : World} {M : List (Nat × Array Value)} {p : Nat} {A : AD} (h : Sv D0 w0 W M p A) (hd : A.dead = false) : Calls Try.prog 30 #[.pointer (some ⟨p, 0, none⟩), .int .i64 1] W fun e W' => ∃ a c, e = .returned (.slice a 32 c) ∧ Bytes W' (.slice a 32 c) (A.sh 1) ∧ Below W.heap.size W W' := svHead h hd 1 (by decide)
theorem svDead {D0 : Nat → Prop} {w0 W : World} {M : List (Nat × Array Value)} {p : Nat} {A : AD} (h : Sv D0 w0 W M p A) : Calls Try.prog 40 #[.pointer (some ⟨p, 0, none⟩)] W fun e W' => e = .returned (.bool A.dead) ∧ W' = W := nDead h.now

set_option maxRecDepth 100000 in
set_option maxHeartbeats 8000000 in
theorem hLoad_any (D : Nat → Prop) (p : Nat) (A : AD) (w0 w : World) (hn : Now D p A w0 w) : Calls Try.prog 23 #[.pointer (some ⟨p, 0, none⟩)] w fun e' w' => e' = .returned (.tuple #[(loadH A).val, .int .i64 (loadE A)]) ∧ Now D p A w0 w' := by
  have HW0 : Hid (w0.heap.size ≤ w.heap.size) := hn.size
  have HS := hide ((Sv.start hn).newC #[.int .u64 0, .int .u64 0, .int .u8 0])
  clear hn
  go_enter Try.func23, Try.ntmps23
  go_upto_region 1 with fail
  generalize w.alloc (.cells #[.int .u64 0, .int .u64 0, .int .u8 0] 24) = W1 at *
  go_wp2_with fail
  refine (svDead (unhide HS)).mono ?_
  rintro e' W2 ⟨rfl, hw2⟩
  rw [hw2]
  clear hw2
  cases hd : A.dead with
  | true =>
    have HE : Hid (loadE A = 3) := by show _ = _; simp [loadE, hd]
    have HH : Hid (loadH A = ⟨0, 0, 0⟩) := by show _ = _; simp [loadH, hd]
    clear hd
    obtain ⟨r0, r1, r2, f0, f1, f2⟩ := (unhide HS).three (g := w.heap.size) (x := .int .u64 0) (y := .int .u64 0) (z := .int .u8 0) (by simp)
    go_wp2_with fail
    refine bodyPost_ret (results_ct rfl _ _ _ _ _ _ _ rfl (set3_heap ((unhide HS).ce (w.heap.size, #[.int .u64 0, .int .u64 0, .int .u8 0]) (by simp)) _ _ _) Try.underlying24 rfl (by kernel_rfl)) rfl ?_
    exact ⟨by rw [unhide HH, unhide HE]; rfl, (unhide HS).set3 (cs := #[.int .u64 0, .int .u64 0, .int .u8 0]) (by simp) (unhide HW0) _ _ _⟩
  | false =>
    have HD := hide hd
    clear hd
    go_wp2_with fail
    refine (svHead0 (unhide HS) (unhide HD)).mono ?_
    rintro e' W3 ⟨a0, c0, rfl, hB0, hb3⟩
    have HS3 := hide ((unhide HS).later hb3)
    have HB0 := hide hB0
    clear hb3 hB0 HS
    go_wp2_with fail
    refine (svHead1 (unhide HS3) (unhide HD)).mono ?_
    rintro e' W4 ⟨a1, c1, rfl, hB1, hb4⟩
    have HS4 := hide ((unhide HS3).later hb4)
    have HB1 := hide hB1
    have HB0' : Hid (Bytes W4 (.slice a0 32 c0) (A.sh 0)) := (unhide HB0).kept fun k _ hk => hb4.block k hk
    clear hb4 hB1 HS3 HB0
    go_wp2_with fail
    refine (hPick_any _ _ _ _ _ (unhide HB0') (unhide HB1)).mono ?_
    rintro e' W5 ⟨rfl, hb5⟩
    have HS5 := hide ((unhide HS4).later hb5)
    clear hb5 HS4 HB0' HB1
    obtain ⟨⟨S, E, L⟩, hV⟩ : ∃ V, pickV (A.sh 0) (A.sh 1) = V := ⟨_, rfl⟩
    obtain ⟨X, hX⟩ : ∃ X, (pickH (A.sh 0) (A.sh 1)).isSome = X := ⟨_, rfl⟩
    have HVV : Hid ((pickV (A.sh 0) (A.sh 1)).val = .agg #[.int .u64 ((S : Nat) : Int), .int .u64 ((E : Nat) : Int), .int .u8 ((L : Nat) : Int)]) := by show _ = _; rw [hV]; rfl
    have HE0 : Hid (loadE A = if X then 0 else 50) := by show _ = _; simp [loadE, unhide HD, hX]
    have HH0 : Hid (loadH A = ⟨S, E, L⟩) := by show _ = _; simp [loadH, unhide HD, hV]
    have HZ0 : Hid (X = false → loadH A = ⟨0, 0, 0⟩) := fun h => by
      have h2 := hX.trans h
      simp [loadH, unhide HD, pickV, Option.isSome_eq_false_iff.1 h2 |> Option.isNone_iff_eq_none.1]
    rw [unhide HVV, hX]
    clear hV hX HVV
    cases X with
    | false =>
      have HE : Hid (loadE A = 50) := unhide HE0
      have HH : Hid (loadH A = ⟨0, 0, 0⟩) := unhide HZ0 rfl
      have HS6 := hide ((unhide HS5).newC #[.int .u64 ((S : Nat) : Int), .int .u64 ((E : Nat) : Int), .int .u8 ((L : Nat) : Int)])
      go_upto_region 7 with fail
      generalize W5.alloc (.cells #[.int .u64 ((S : Nat) : Int), .int .u64 ((E : Nat) : Int), .int .u8 ((L : Nat) : Int)] 24) = W6 at *
      obtain ⟨r0, r1, r2, f0, f1, f2⟩ := (unhide HS6).three (g := w.heap.size) (x := .int .u64 0) (y := .int .u64 0) (z := .int .u8 0) (by simp)
      go_wp2_with fail
      refine bodyPost_ret (results_ct rfl _ _ _ _ _ _ _ rfl (set3_heap ((unhide HS6).ce (w.heap.size, #[.int .u64 0, .int .u64 0, .int .u8 0]) (by simp)) _ _ _) Try.underlying24 rfl (by kernel_rfl)) rfl ?_
      exact ⟨by rw [unhide HH, unhide HE]; rfl, (unhide HS6).set3 (cs := #[.int .u64 0, .int .u64 0, .int .u8 0]) (by simp) (unhide HW0) _ _ _⟩
    | true =>
      have HE : Hid (loadE A = 0) := unhide HE0
      have HH : Hid (loadH A = ⟨S, E, L⟩) := unhide HH0
      have HS6 := hide ((unhide HS5).newC #[.int .u64 ((S : Nat) : Int), .int .u64 ((E : Nat) : Int), .int .u8 ((L : Nat) : Int)])
      go_upto_region 7 with fail
      generalize W5.alloc (.cells #[.int .u64 ((S : Nat) : Int), .int .u64 ((E : Nat) : Int), .int .u8 ((L : Nat) : Int)] 24) = W6 at *
      generalize W5.heap.size = g at *
      obtain ⟨r0, r1, r2, f0, f1, f2⟩ := (unhide HS6).three (g := w.heap.size) (x := .int .u64 0) (y := .int .u64 0) (z := .int .u8 0) (by simp)
      obtain ⟨n0, n1, n2, _⟩ := (unhide HS6).three (g := g) (x := .int .u64 ((S : Nat) : Int)) (y := .int .u64 ((E : Nat) : Int)) (z := .int .u8 ((L : Nat) : Int)) (by simp)
      go_wp2_with fail
      refine bodyPost_ret (results_ct rfl _ _ _ _ _ _ _ rfl (set3_heap ((unhide HS6).ce (w.heap.size, #[.int .u64 0, .int .u64 0, .int .u8 0]) (by simp)) _ _ _) Try.underlying24 rfl (by kernel_rfl)) rfl ?_
      exact ⟨by rw [unhide HH, unhide HE]; rfl, (unhide HS6).set3 (cs := #[.int .u64 0, .int .u64 0, .int .u8 0]) (by simp) (unhide HW0) _ _ _⟩

set_option maxRecDepth 100000 in
set_option maxHeartbeats 8000000 in
theorem hLoad_none (q : Value) (w : World) (h : NoDisk w q) : Calls Try.prog 23 #[q] w fun e' w' => e' = .returned (.tuple #[.agg #[.int .u64 0, .int .u64 0, .int .u8 0], .int .i64 1]) ∧ Below w.heap.size w w' := by
  have HN := hide (h.alloc (.cells #[.int .u64 0, .int .u64 0, .int .u8 0] 24))
  have HB := hide ((Below.refl _ w).alloc (Nat.le_refl _) (.cells #[.int .u64 0, .int .u64 0, .int .u8 0] 24))
  have HX := hide (heap_alloc_new w (.cells #[.int .u64 0, .int .u64 0, .int .u8 0] 24))
  clear h
  go_enter Try.func23, Try.ntmps23
  go_upto_region 1 with fail
  generalize w.alloc (.cells #[.int .u64 0, .int .u64 0, .int .u8 0] 24) = W1 at *
  go_wp2_with fail
  refine (dead_nil (unhide HN)).mono ?_
  rintro e' W2 ⟨rfl, hw⟩
  rw [hw]
  clear hw
  go_wp2_with fail
  refine (head_nil (unhide HN) 0).mono ?_
  rintro e' W2 ⟨rfl, hw⟩
  rw [hw]
  clear hw
  go_wp2_with fail
  refine (head_nil (unhide HN) 1).mono ?_
  rintro e' W2 ⟨rfl, hw⟩
  rw [hw]
  clear hw
  have r0 : W1.cell? ⟨w.heap.size, 0, none⟩ = some (.int .u64 0) := cell_of_row _ _ 0 _ _ _ (unhide HX)
  have r1 : W1.cell? ⟨w.heap.size, 1, none⟩ = some (.int .u64 0) := cell_of_row _ _ 1 _ _ _ (unhide HX)
  have r2 : W1.cell? ⟨w.heap.size, 2, none⟩ = some (.int .u8 0) := cell_of_row _ _ 2 _ _ _ (unhide HX)
  have f0 : W1.frozen? ⟨w.heap.size, 0, none⟩ = false := frozen_of_row _ _ _ _ _ (unhide HX)
  have f1 : W1.frozen? ⟨w.heap.size, 1, none⟩ = false := frozen_of_row _ _ _ _ _ (unhide HX)
  have f2 : W1.frozen? ⟨w.heap.size, 2, none⟩ = false := frozen_of_row _ _ _ _ _ (unhide HX)
  go_wp2_with fail
  refine bodyPost_ret (results_ct rfl _ _ _ _ _ _ _ rfl (set3_heap (unhide HX) _ _ _) Try.underlying24 rfl (by kernel_rfl)) rfl ?_
  exact ⟨rfl, set3_below (unhide HB) (Nat.le_refl _) _ _ _⟩

set_option maxRecDepth 100000 in
set_option maxHeartbeats 8000000 in
theorem hSave_none (q : Value) (w : World) (s e l : Nat) (h : NoDisk w q) (hf : (HeadD.mk s e l).fits) (hr : (HeadD.mk s e l).next.right = true) : Calls Try.prog 21 #[q, .agg #[.int .u64 ((s : Nat) : Int), .int .u64 ((e : Nat) : Int), .int .u8 ((l : Nat) : Int)]] w fun e' w' => e' = .returned (.tuple #[.agg #[.int .u64 0, .int .u64 0, .int .u8 0], .int .i64 1]) ∧ Below w.heap.size w w' := by
  obtain ⟨t, ht⟩ : ∃ t, (s + 1) % 18446744073709551616 = t := ⟨_, rfl⟩
  have hnx : (HeadD.mk s e l).next = ⟨t, e, l⟩ := by rw [← ht]; rfl
  have HF : Hid (HeadD.mk t e l).fits := by have h2 := HeadD.next_fits hf; rw [hnx] at h2; exact h2
  have HR : Hid ((HeadD.mk t e l).right = true) := by rw [hnx] at hr; exact hr
  have hwr : IntKind.u64.wrap ((s : Int) + 1) = ((t : Nat) : Int) := by rw [IntKind.wrap_u64]; omega
  have HN := hide ((h.alloc (.cells #[.int .u64 ((t : Nat) : Int), .int .u64 ((e : Nat) : Int), .int .u8 ((l : Nat) : Int)] 24)).alloc (.cells #[.int .u64 0, .int .u64 0, .int .u8 0] 24))
  have HB := hide (((Below.refl _ w).alloc (Nat.le_refl _) (.cells #[.int .u64 ((t : Nat) : Int), .int .u64 ((e : Nat) : Int), .int .u8 ((l : Nat) : Int)] 24)).alloc (by simp) (.cells #[.int .u64 0, .int .u64 0, .int .u8 0] 24))
  have hx := heap_alloc_new (w.alloc (.cells #[.int .u64 ((t : Nat) : Int), .int .u64 ((e : Nat) : Int), .int .u8 ((l : Nat) : Int)] 24)) (.cells #[.int .u64 0, .int .u64 0, .int .u8 0] 24)
  have hsz : (w.alloc (.cells #[.int .u64 ((t : Nat) : Int), .int .u64 ((e : Nat) : Int), .int .u8 ((l : Nat) : Int)] 24)).heap.size = w.heap.size + 1 := by simp
  rw [hsz] at hx
  have HX := hide hx
  have HX0 : Hid (((w.alloc (.cells #[.int .u64 ((t : Nat) : Int), .int .u64 ((e : Nat) : Int), .int .u8 ((l : Nat) : Int)] 24)).alloc (.cells #[.int .u64 0, .int .u64 0, .int .u8 0] 24)).heap[w.heap.size]? = some (.cells #[.int .u64 ((t : Nat) : Int), .int .u64 ((e : Nat) : Int), .int .u8 ((l : Nat) : Int)] 24 (0, 0))) := by
    show _ = _
    rw [Below.heap_alloc _ _ _ (by simp), heap_alloc_new]
  clear h hf hr hnx hx hsz
  go_enter Try.func21, Try.ntmps21
  go_upto_region 2 with fail
  generalize (w.alloc (.cells #[.int .u64 ((t : Nat) : Int), .int .u64 ((e : Nat) : Int), .int .u8 ((l : Nat) : Int)] 24)).alloc (.cells #[.int .u64 0, .int .u64 0, .int .u8 0] 24) = W1 at *
  have n0 : W1.cell? ⟨w.heap.size, 0, none⟩ = some (.int .u64 ((t : Nat) : Int)) := cell_of_row _ _ 0 _ _ _ (unhide HX0)
  have n1 : W1.cell? ⟨w.heap.size, 1, none⟩ = some (.int .u64 ((e : Nat) : Int)) := cell_of_row _ _ 1 _ _ _ (unhide HX0)
  have n2 : W1.cell? ⟨w.heap.size, 2, none⟩ = some (.int .u8 ((l : Nat) : Int)) := cell_of_row _ _ 2 _ _ _ (unhide HX0)
  have HT := hide ht
  clear ht hwr
  go_wp2_with fail
  refine (hBytes_ok t e l _ (unhide HF) (unhide HR)).mono ?_
  rintro e' W2 ⟨g, rfl, hA2⟩
  have hb2 : Below W1.heap.size W1 W2 := hA2.bb
  have hX2 := (hb2.block _ (Array.getElem?_eq_some_iff.1 (unhide HX0)).1).trans (unhide HX0)
  have HB2 := hide hb2
  clear n0 n1 n2 hA2 hb2
  have n0 : W2.cell? ⟨w.heap.size, 0, none⟩ = some (.int .u64 ((t : Nat) : Int)) := cell_of_row _ _ 0 _ _ _ hX2
  have n1 : W2.cell? ⟨w.heap.size, 1, none⟩ = some (.int .u64 ((e : Nat) : Int)) := cell_of_row _ _ 1 _ _ _ hX2
  have n2 : W2.cell? ⟨w.heap.size, 2, none⟩ = some (.int .u8 ((l : Nat) : Int)) := cell_of_row _ _ 2 _ _ _ hX2
  clear hX2
  go_wp2_with fail
  refine (hSlot_any t e l _ (unhide HF)).mono ?_
  rintro e' W3 ⟨rfl, hb3⟩
  have HB3 : Hid (Below W1.heap.size W1 W3) := (unhide HB2).trans (hb3.mono (unhide HB2).size)
  clear hb3 n0 n1 n2 HB2
  generalize t % 2 = i2 at *
  go_wp2_with fail
  refine (write_nil ((unhide HN).kept (unhide HB3) (Nat.le_refl _)) _ _ _ _).mono ?_
  rintro e' W4 ⟨rfl, hb4⟩
  have HB4 : Hid (Below W1.heap.size W1 W4) := (unhide HB3).trans (hb4.mono (unhide HB3).size)
  clear hb4 HB3
  have HX4 : Hid (W4.heap[w.heap.size + 1]? = some (.cells #[.int .u64 0, .int .u64 0, .int .u8 0] 24 (0, 0))) := ((unhide HB4).block _ (Array.getElem?_eq_some_iff.1 (unhide HX)).1).trans (unhide HX)
  have HB5 : Hid (Below w.heap.size w W4) := (unhide HB).trans ((unhide HB4).mono (unhide HB).size)
  have r0 : W4.cell? ⟨w.heap.size + 1, 0, none⟩ = some (.int .u64 0) := cell_of_row _ _ 0 _ _ _ (unhide HX4)
  have r1 : W4.cell? ⟨w.heap.size + 1, 1, none⟩ = some (.int .u64 0) := cell_of_row _ _ 1 _ _ _ (unhide HX4)
  have r2 : W4.cell? ⟨w.heap.size + 1, 2, none⟩ = some (.int .u8 0) := cell_of_row _ _ 2 _ _ _ (unhide HX4)
  have f0 : W4.frozen? ⟨w.heap.size + 1, 0, none⟩ = false := frozen_of_row _ _ _ _ _ (unhide HX4)
  have f1 : W4.frozen? ⟨w.heap.size + 1, 1, none⟩ = false := frozen_of_row _ _ _ _ _ (unhide HX4)
  have f2 : W4.frozen? ⟨w.heap.size + 1, 2, none⟩ = false := frozen_of_row _ _ _ _ _ (unhide HX4)
  go_wp2_with fail
  refine bodyPost_ret (results_ct rfl _ _ _ _ _ _ _ rfl (set3_heap (unhide HX4) _ _ _) Try.underlying24 rfl (by kernel_rfl)) rfl ?_
  exact ⟨rfl, set3_below (unhide HB5) (by omega) _ _ _⟩

/-- The landed package answers as the document says. -/
theorem headPure : HeadPure where
  right := fun s e l w hf => hRight_any s e l w hf
  bytes := fun s e l w hf => hBytes_any s e l w hf
  read := fun u b w h => hRead_any u b w h
  pick := fun u v zero one w hu hv => hPick_any u v zero one w hu hv
theorem headOk : HeadOk where
  pure := headPure
  save := fun D p A w0 w s e l hn hf => hSave_any D p A w0 w s e l hn hf
  load := fun D p A w0 w hn => hLoad_any D p A w0 w hn
  saveNone := fun q w s e l h hf hr => hSave_none q w s e l h hf hr
  loadNone := fun q w h => hLoad_none q w h
end Go.Proofs.Ytoabpjdpdcpdlaa
