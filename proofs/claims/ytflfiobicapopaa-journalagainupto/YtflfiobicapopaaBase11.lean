/- HeadImpl, JourDisk, JourFn, JourClos: our own definitions and contracts; no statement of the seat is proved here. -/
import Derived.Test.YtflfiobicapopaaBase10
import Derived.Test.YtflfiobicapopaaBase09
namespace Go.Proofs.Ytflfiobicapopaa
open Go.RowKit

theorem svHead {D0 : Nat → Prop} {w0 W : World} {M : List (Nat × Array Value)} {p : Nat} {A : AD} (h : Sv D0 w0 W M p A) (hd : A.dead = false) (i : Nat) (hi : i < 2) : Calls Try.prog 78 #[.pointer (some ⟨p, 0, none⟩), .int .i64 ((i : Nat) : Int)] W fun e W' => ∃ a c, e = .returned (.slice a 32 c) ∧ Bytes W' (.slice a 32 c) (A.sh i) ∧ Below W.heap.size W W' := by
  obtain ⟨D, v, h1, _⟩ := h.dsk
  refine (head_ok h1 hd i hi).mono ?_
  rintro e W' ⟨r, rfl, hF⟩
  obtain ⟨a, c, rfl, _⟩ := hF.1.form
  have hl : (A.sh i).length = 32 := h1.ok.sh i hi
  rw [hl] at hF ⊢
  exact ⟨a, c, rfl, hF.1, hF.2.2⟩
theorem svHead0 {D0 : Nat → Prop} {w0 W : World} {M : List (Nat × Array Value)} {p : Nat} {A : AD} (h : Sv D0 w0 W M p A) (hd : A.dead = false) : Calls Try.prog 78 #[.pointer (some ⟨p, 0, none⟩), .int .i64 0] W fun e W' => ∃ a c, e = .returned (.slice a 32 c) ∧ Bytes W' (.slice a 32 c) (A.sh 0) ∧ Below W.heap.size W W' := svHead h hd 0 (by decide)
theorem svHead1 {D0 : Nat → Prop} {w0 W : World} {M : List (Nat × Array Value)} {p : Nat} {A : AD} (h : Sv D0 w0 W M p A) (hd : A.dead = false) : Calls Try.prog 78 #[.pointer (some ⟨p, 0, none⟩), .int .i64 1] W fun e W' => ∃ a c, e = .returned (.slice a 32 c) ∧ Bytes W' (.slice a 32 c) (A.sh 1) ∧ Below W.heap.size W W' := svHead h hd 1 (by decide)
theorem svDead {D0 : Nat → Prop} {w0 W : World} {M : List (Nat × Array Value)} {p : Nat} {A : AD} (h : Sv D0 w0 W M p A) : Calls Try.prog 77 #[.pointer (some ⟨p, 0, none⟩)] W fun e W' => e = .returned (.bool A.dead) ∧ W' = W := nDead h.now

set_option maxRecDepth 100000 in
set_option maxHeartbeats 8000000 in
theorem hLoad_any (D : Nat → Prop) (p : Nat) (A : AD) (w0 w : World) (hn : Now D p A w0 w) : Calls Try.prog 50 #[.pointer (some ⟨p, 0, none⟩)] w fun e' w' => e' = .returned (.tuple #[(loadH A).val, .int .i64 (loadE A)]) ∧ Now D p A w0 w' := by
  have HW0 : Hid (w0.heap.size ≤ w.heap.size) := hn.size
  have HS := hide ((Sv.start hn).newC #[.int .u64 0, .int .u64 0, .int .u8 0])
  clear hn
  go_enter Try.func50, Try.ntmps50
  go_upto_region 1 with fail
  generalize w.alloc (.cells #[.int .u64 0, .int .u64 0, .int .u8 0] 37) = W1 at *
  go_wp2_with fail
  refine (svDead (unhide HS)).mono ?_
  rintro e' W2 ⟨rfl, hw2⟩
  rw [hw2]
  clear hw2
  cases hd : A.dead with
  | true =>
    have HE : Hid (loadE A = 3) := by show _ = _; simp [loadE, hd]
    have HH : Hid (loadH A = ⟨0, 0, 0⟩) := by show _ = _; simp [loadH, hd]
    clear hd
    obtain ⟨r0, r1, r2, f0, f1, f2⟩ := (unhide HS).three (g := w.heap.size) (x := .int .u64 0) (y := .int .u64 0) (z := .int .u8 0) (by simp)
    go_wp2_with fail
    refine bodyPost_ret (results_ct rfl _ _ _ _ _ _ _ rfl (set3_heap ((unhide HS).ce (w.heap.size, #[.int .u64 0, .int .u64 0, .int .u8 0]) (by simp)) _ _ _) Try.underlying37 rfl (by kernel_rfl)) rfl ?_
    exact ⟨by rw [unhide HH, unhide HE]; rfl, (unhide HS).set3 (cs := #[.int .u64 0, .int .u64 0, .int .u8 0]) (by simp) (unhide HW0) _ _ _⟩
  | false =>
    have HD := hide hd
    clear hd
    go_wp2_with fail
    refine (svHead0 (unhide HS) (unhide HD)).mono ?_
    rintro e' W3 ⟨a0, c0, rfl, hB0, hb3⟩
    have HS3 := hide ((unhide HS).later hb3)
    have HB0 := hide hB0
    clear hb3 hB0 HS
    go_wp2_with fail
    refine (svHead1 (unhide HS3) (unhide HD)).mono ?_
    rintro e' W4 ⟨a1, c1, rfl, hB1, hb4⟩
    have HS4 := hide ((unhide HS3).later hb4)
    have HB1 := hide hB1
    have HB0' : Hid (Bytes W4 (.slice a0 32 c0) (A.sh 0)) := (unhide HB0).kept fun k _ hk => hb4.block k hk
    clear hb4 hB1 HS3 HB0
    go_wp2_with fail
    refine (hPick_any _ _ _ _ _ (unhide HB0') (unhide HB1)).mono ?_
    rintro e' W5 ⟨rfl, hb5⟩
    have HS5 := hide ((unhide HS4).later hb5)
    clear hb5 HS4 HB0' HB1
    obtain ⟨⟨S, E, L⟩, hV⟩ : ∃ V, pickV (A.sh 0) (A.sh 1) = V := ⟨_, rfl⟩
    obtain ⟨X, hX⟩ : ∃ X, (pickH (A.sh 0) (A.sh 1)).isSome = X := ⟨_, rfl⟩
    have HVV : Hid ((pickV (A.sh 0) (A.sh 1)).val = .agg #[.int .u64 ((S : Nat) : Int), .int .u64 ((E : Nat) : Int), .int .u8 ((L : Nat) : Int)]) := by show _ = _; rw [hV]; rfl
    have HE0 : Hid (loadE A = if X then 0 else 50) := by show _ = _; simp [loadE, unhide HD, hX]
    have HH0 : Hid (loadH A = ⟨S, E, L⟩) := by show _ = _; simp [loadH, unhide HD, hV]
    have HZ0 : Hid (X = false → loadH A = ⟨0, 0, 0⟩) := fun h => by
      have h2 := hX.trans h
      simp [loadH, unhide HD, pickV, Option.isSome_eq_false_iff.1 h2 |> Option.isNone_iff_eq_none.1]
    rw [unhide HVV, hX]
    clear hV hX HVV
    cases X with
    | false =>
      have HE : Hid (loadE A = 50) := unhide HE0
      have HH : Hid (loadH A = ⟨0, 0, 0⟩) := unhide HZ0 rfl
      have HS6 := hide ((unhide HS5).newC #[.int .u64 ((S : Nat) : Int), .int .u64 ((E : Nat) : Int), .int .u8 ((L : Nat) : Int)])
      go_upto_region 7 with fail
      generalize W5.alloc (.cells #[.int .u64 ((S : Nat) : Int), .int .u64 ((E : Nat) : Int), .int .u8 ((L : Nat) : Int)] 37) = W6 at *
      obtain ⟨r0, r1, r2, f0, f1, f2⟩ := (unhide HS6).three (g := w.heap.size) (x := .int .u64 0) (y := .int .u64 0) (z := .int .u8 0) (by simp)
      go_wp2_with fail
      refine bodyPost_ret (results_ct rfl _ _ _ _ _ _ _ rfl (set3_heap ((unhide HS6).ce (w.heap.size, #[.int .u64 0, .int .u64 0, .int .u8 0]) (by simp)) _ _ _) Try.underlying37 rfl (by kernel_rfl)) rfl ?_
      exact ⟨by rw [unhide HH, unhide HE]; rfl, (unhide HS6).set3 (cs := #[.int .u64 0, .int .u64 0, .int .u8 0]) (by simp) (unhide HW0) _ _ _⟩
    | true =>
      have HE : Hid (loadE A = 0) := unhide HE0
      have HH : Hid (loadH A = ⟨S, E, L⟩) := unhide HH0
      have HS6 := hide ((unhide HS5).newC #[.int .u64 ((S : Nat) : Int), .int .u64 ((E : Nat) : Int), .int .u8 ((L : Nat) : Int)])
      go_upto_region 7 with fail
      generalize W5.alloc (.cells #[.int .u64 ((S : Nat) : Int), .int .u64 ((E : Nat) : Int), .int .u8 ((L : Nat) : Int)] 37) = W6 at *
      generalize W5.heap.size = g at *
      obtain ⟨r0, r1, r2, f0, f1, f2⟩ := (unhide HS6).three (g := w.heap.size) (x := .int .u64 0) (y := .int .u64 0) (z := .int .u8 0) (by simp)
      obtain ⟨n0, n1, n2, _⟩ := (unhide HS6).three (g := g) (x := .int .u64 ((S : Nat) : Int)) (y := .int .u64 ((E : Nat) : Int)) (z := .int .u8 ((L : Nat) : Int)) (by simp)
      go_wp2_with fail
      refine bodyPost_ret (results_ct rfl _ _ _ _ _ _ _ rfl (set3_heap ((unhide HS6).ce (w.heap.size, #[.int .u64 0, .int .u64 0, .int .u8 0]) (by simp)) _ _ _) Try.underlying37 rfl (by kernel_rfl)) rfl ?_
      exact ⟨by rw [unhide HH, unhide HE]; rfl, (unhide HS6).set3 (cs := #[.int .u64 0, .int .u64 0, .int .u8 0]) (by simp) (unhide HW0) _ _ _⟩

set_option maxRecDepth 100000 in
set_option maxHeartbeats 8000000 in
theorem hLoad_none (q : Value) (w : World) (h : NoDisk w q) : Calls Try.prog 50 #[q] w fun e' w' => e' = .returned (.tuple #[.agg #[.int .u64 0, .int .u64 0, .int .u8 0], .int .i64 1]) ∧ Below w.heap.size w w' := by
  have HN := hide (h.alloc (.cells #[.int .u64 0, .int .u64 0, .int .u8 0] 37))
  have HB := hide ((Below.refl _ w).alloc (Nat.le_refl _) (.cells #[.int .u64 0, .int .u64 0, .int .u8 0] 37))
  have HX := hide (heap_alloc_new w (.cells #[.int .u64 0, .int .u64 0, .int .u8 0] 37))
  clear h
  go_enter Try.func50, Try.ntmps50
  go_upto_region 1 with fail
  generalize w.alloc (.cells #[.int .u64 0, .int .u64 0, .int .u8 0] 37) = W1 at *
  go_wp2_with fail
  refine (dead_nil (unhide HN)).mono ?_
  rintro e' W2 ⟨rfl, hw⟩
  rw [hw]
  clear hw
  go_wp2_with fail
  refine (head_nil (unhide HN) 0).mono ?_
  rintro e' W2 ⟨rfl, hw⟩
  rw [hw]
  clear hw
  go_wp2_with fail
  refine (head_nil (unhide HN) 1).mono ?_
  rintro e' W2 ⟨rfl, hw⟩
  rw [hw]
  clear hw
  have r0 : W1.cell? ⟨w.heap.size, 0, none⟩ = some (.int .u64 0) := cell_of_row _ _ 0 _ _ _ (unhide HX)
  have r1 : W1.cell? ⟨w.heap.size, 1, none⟩ = some (.int .u64 0) := cell_of_row _ _ 1 _ _ _ (unhide HX)
  have r2 : W1.cell? ⟨w.heap.size, 2, none⟩ = some (.int .u8 0) := cell_of_row _ _ 2 _ _ _ (unhide HX)
  have f0 : W1.frozen? ⟨w.heap.size, 0, none⟩ = false := frozen_of_row _ _ _ _ _ (unhide HX)
  have f1 : W1.frozen? ⟨w.heap.size, 1, none⟩ = false := frozen_of_row _ _ _ _ _ (unhide HX)
  have f2 : W1.frozen? ⟨w.heap.size, 2, none⟩ = false := frozen_of_row _ _ _ _ _ (unhide HX)
  go_wp2_with fail
  refine bodyPost_ret (results_ct rfl _ _ _ _ _ _ _ rfl (set3_heap (unhide HX) _ _ _) Try.underlying37 rfl (by kernel_rfl)) rfl ?_
  exact ⟨rfl, set3_below (unhide HB) (Nat.le_refl _) _ _ _⟩

set_option maxRecDepth 100000 in
set_option maxHeartbeats 8000000 in
theorem hSave_none (q : Value) (w : World) (s e l : Nat) (h : NoDisk w q) (hf : (HeadD.mk s e l).fits) (hr : (HeadD.mk s e l).next.right = true) : Calls Try.prog 74 #[q, .agg #[.int .u64 ((s : Nat) : Int), .int .u64 ((e : Nat) : Int), .int .u8 ((l : Nat) : Int)]] w fun e' w' => e' = .returned (.tuple #[.agg #[.int .u64 0, .int .u64 0, .int .u8 0], .int .i64 1]) ∧ Below w.heap.size w w' := by
  obtain ⟨t, ht⟩ : ∃ t, (s + 1) % 18446744073709551616 = t := ⟨_, rfl⟩
  have hnx : (HeadD.mk s e l).next = ⟨t, e, l⟩ := by rw [← ht]; rfl
  have HF : Hid (HeadD.mk t e l).fits := by have h2 := HeadD.next_fits hf; rw [hnx] at h2; exact h2
  have HR : Hid ((HeadD.mk t e l).right = true) := by rw [hnx] at hr; exact hr
  have hwr : IntKind.u64.wrap ((s : Int) + 1) = ((t : Nat) : Int) := by rw [IntKind.wrap_u64]; omega
  have HN := hide ((h.alloc (.cells #[.int .u64 ((t : Nat) : Int), .int .u64 ((e : Nat) : Int), .int .u8 ((l : Nat) : Int)] 37)).alloc (.cells #[.int .u64 0, .int .u64 0, .int .u8 0] 37))
  have HB := hide (((Below.refl _ w).alloc (Nat.le_refl _) (.cells #[.int .u64 ((t : Nat) : Int), .int .u64 ((e : Nat) : Int), .int .u8 ((l : Nat) : Int)] 37)).alloc (by simp) (.cells #[.int .u64 0, .int .u64 0, .int .u8 0] 37))
  have hx := heap_alloc_new (w.alloc (.cells #[.int .u64 ((t : Nat) : Int), .int .u64 ((e : Nat) : Int), .int .u8 ((l : Nat) : Int)] 37)) (.cells #[.int .u64 0, .int .u64 0, .int .u8 0] 37)
  have hsz : (w.alloc (.cells #[.int .u64 ((t : Nat) : Int), .int .u64 ((e : Nat) : Int), .int .u8 ((l : Nat) : Int)] 37)).heap.size = w.heap.size + 1 := by simp
  rw [hsz] at hx
  have HX := hide hx
  have HX0 : Hid (((w.alloc (.cells #[.int .u64 ((t : Nat) : Int), .int .u64 ((e : Nat) : Int), .int .u8 ((l : Nat) : Int)] 37)).alloc (.cells #[.int .u64 0, .int .u64 0, .int .u8 0] 37)).heap[w.heap.size]? = some (.cells #[.int .u64 ((t : Nat) : Int), .int .u64 ((e : Nat) : Int), .int .u8 ((l : Nat) : Int)] 37 (0, 0))) := by
    show _ = _
    rw [Below.heap_alloc _ _ _ (by simp), heap_alloc_new]
  clear h hf hr hnx hx hsz
  go_enter Try.func74, Try.ntmps74
  go_upto_region 2 with fail
  generalize (w.alloc (.cells #[.int .u64 ((t : Nat) : Int), .int .u64 ((e : Nat) : Int), .int .u8 ((l : Nat) : Int)] 37)).alloc (.cells #[.int .u64 0, .int .u64 0, .int .u8 0] 37) = W1 at *
  have n0 : W1.cell? ⟨w.heap.size, 0, none⟩ = some (.int .u64 ((t : Nat) : Int)) := cell_of_row _ _ 0 _ _ _ (unhide HX0)
  have n1 : W1.cell? ⟨w.heap.size, 1, none⟩ = some (.int .u64 ((e : Nat) : Int)) := cell_of_row _ _ 1 _ _ _ (unhide HX0)
  have n2 : W1.cell? ⟨w.heap.size, 2, none⟩ = some (.int .u8 ((l : Nat) : Int)) := cell_of_row _ _ 2 _ _ _ (unhide HX0)
  have HT := hide ht
  clear ht hwr
  go_wp2_with fail
  refine (hBytes_ok t e l _ (unhide HF) (unhide HR)).mono ?_
  rintro e' W2 ⟨g, rfl, hA2⟩
  have hb2 : Below W1.heap.size W1 W2 := hA2.bb
  have hX2 := (hb2.block _ (Array.getElem?_eq_some_iff.1 (unhide HX0)).1).trans (unhide HX0)
  have HB2 := hide hb2
  clear n0 n1 n2 hA2 hb2
  have n0 : W2.cell? ⟨w.heap.size, 0, none⟩ = some (.int .u64 ((t : Nat) : Int)) := cell_of_row _ _ 0 _ _ _ hX2
  have n1 : W2.cell? ⟨w.heap.size, 1, none⟩ = some (.int .u64 ((e : Nat) : Int)) := cell_of_row _ _ 1 _ _ _ hX2
  have n2 : W2.cell? ⟨w.heap.size, 2, none⟩ = some (.int .u8 ((l : Nat) : Int)) := cell_of_row _ _ 2 _ _ _ hX2
  clear hX2
  go_wp2_with fail
  refine (hSlot_any t e l _ (unhide HF)).mono ?_
  rintro e' W3 ⟨rfl, hb3⟩
  have HB3 : Hid (Below W1.heap.size W1 W3) := (unhide HB2).trans (hb3.mono (unhide HB2).size)
  clear hb3 n0 n1 n2 HB2
  generalize t % 2 = i2 at *
  go_wp2_with fail
  refine (write_nil ((unhide HN).kept (unhide HB3) (Nat.le_refl _)) _ _ _ _).mono ?_
  rintro e' W4 ⟨rfl, hb4⟩
  have HB4 : Hid (Below W1.heap.size W1 W4) := (unhide HB3).trans (hb4.mono (unhide HB3).size)
  clear hb4 HB3
  have HX4 : Hid (W4.heap[w.heap.size + 1]? = some (.cells #[.int .u64 0, .int .u64 0, .int .u8 0] 37 (0, 0))) := ((unhide HB4).block _ (Array.getElem?_eq_some_iff.1 (unhide HX)).1).trans (unhide HX)
  have HB5 : Hid (Below w.heap.size w W4) := (unhide HB).trans ((unhide HB4).mono (unhide HB).size)
  have r0 : W4.cell? ⟨w.heap.size + 1, 0, none⟩ = some (.int .u64 0) := cell_of_row _ _ 0 _ _ _ (unhide HX4)
  have r1 : W4.cell? ⟨w.heap.size + 1, 1, none⟩ = some (.int .u64 0) := cell_of_row _ _ 1 _ _ _ (unhide HX4)
  have r2 : W4.cell? ⟨w.heap.size + 1, 2, none⟩ = some (.int .u8 0) := cell_of_row _ _ 2 _ _ _ (unhide HX4)
  have f0 : W4.frozen? ⟨w.heap.size + 1, 0, none⟩ = false := frozen_of_row _ _ _ _ _ (unhide HX4)
  have f1 : W4.frozen? ⟨w.heap.size + 1, 1, none⟩ = false := frozen_of_row _ _ _ _ _ (unhide HX4)
  have f2 : W4.frozen? ⟨w.heap.size + 1, 2, none⟩ = false := frozen_of_row _ _ _ _ _ (unhide HX4)
  go_wp2_with fail
  refine bodyPost_ret (results_ct rfl _ _ _ _ _ _ _ rfl (set3_heap (unhide HX4) _ _ _) Try.underlying37 rfl (by kernel_rfl)) rfl ?_
  exact ⟨rfl, set3_below (unhide HB5) (by omega) _ _ _⟩

/-- The landed package answers as the document says. -/
theorem headPure : HeadPure where
  right := fun s e l w hf => hRight_any s e l w hf
  bytes := fun s e l w hf => hBytes_any s e l w hf
  read := fun u b w h => hRead_any u b w h
  pick := fun u v zero one w hu hv => hPick_any u v zero one w hu hv
theorem headOk : HeadOk where
  pure := headPure
  save := fun D p A w0 w s e l hn hf => hSave_any D p A w0 w s e l hn hf
  load := fun D p A w0 w hn => hLoad_any D p A w0 w hn
  saveNone := fun q w s e l h hf hr => hSave_none q w s e l h hf hr
  loadNone := fun q w h => hLoad_none q w h
end Go.Proofs.Ytflfiobicapopaa

namespace Go.Proofs.Ytflfiobicapopaa
open Go.RowKit

/-- What Append of so many bytes tells, and leaves; what Sync and Truncate leave; what Read tells. -/
def apE (A : AD) (n : Nat) : Int := if A.dead then 3 else if A.cap < ((A.x 0).length : Int) + (A.x 1).length + n then 5 else if A.calls = 0 then 3 else 0
def apD (A : AD) (i : Nat) (bs : List UInt8) : AD := if A.dead then A else if A.cap < ((A.x 0).length : Int) + (A.x 1).length + bs.length then A else if A.calls = 0 then A.killed i bs else { A.tick with x := upd A.x i (A.x i ++ bs) }
def syD (A : AD) (i : Nat) : AD := if A.dead then A else if A.calls = 0 then { A with dead := true } else A.tick.synced i
def trD (A : AD) (i n : Nat) : AD := if A.dead then A else if A.calls = 0 then { A with dead := true } else A.tick.cut i n
def rdX (A : AD) (i : Nat) : List UInt8 := if A.dead then [] else A.x i
def frE (A : AD) : Int := if A.dead then 0 else A.cap - (A.x 0).length - (A.x 1).length
def fuD (A : AD) (c k : Int) : AD := if A.dead then A else A.fused c k
/-- What shorten tells and leaves. -/
def snE (A : AD) (i n : Nat) : Int := if (rdX A i).length ≤ n then 0 else chE A
def snD (A : AD) (i n : Nat) : AD := if (rdX A i).length ≤ n then A else trD A i n

theorem append_any {w : World} {p : Nat} {D : Nat → Prop} {v : Nat → Value} {A : AD} (h : DiskIs w p D v A) (i : Nat) (hi : i < 2) (a : Option Addr) (c : Nat) (bs : List UInt8) (hu : Bytes w (.slice a bs.length c) bs) (hn : bs ≠ [] → ∀ k, (Value.slice a bs.length c).ownBlock = some k → ¬ D k) :
    Calls Try.prog 23 #[.pointer (some ⟨p, 0, none⟩), .int .i64 ((i : Nat) : Int), .slice a bs.length c] w fun e w' => e = .returned (.int .i64 (apE A bs.length)) ∧ Now D p (apD A i bs) w w' := by
  cases hd : A.dead with
  | true =>
    have e1 : apE A bs.length = 3 := by simp [apE, hd]
    have e2 : apD A i bs = A := by simp [apD, hd]
    rw [e1, e2]
    exact append_dead h hd _ _ ⟨_, _, _, rfl⟩
  | false =>
    by_cases hf : A.cap < ((A.x 0).length : Int) + (A.x 1).length + bs.length
    · have e1 : apE A bs.length = 5 := by simp only [apE, hd, if_pos hf]; rfl
      have e2 : apD A i bs = A := by simp only [apD, hd, if_pos hf]; rfl
      rw [e1, e2]
      exact append_full h hd i hi _ bs hu hf
    · by_cases hc : A.calls = 0
      · have e1 : apE A bs.length = 3 := by simp only [apE, hd, if_neg hf, if_pos hc]; rfl
        have e2 : apD A i bs = A.killed i bs := by simp only [apD, hd, if_neg hf, if_pos hc]; rfl
        rw [e1, e2]
        exact append_kill h hd hc i hi _ bs hu hn (by omega)
      · have e1 : apE A bs.length = 0 := by simp only [apE, hd, if_neg hf, if_neg hc]; rfl
        have e2 : apD A i bs = { A.tick with x := upd A.x i (A.x i ++ bs) } := by simp only [apD, hd, if_neg hf, if_neg hc]; rfl
        rw [e1, e2]
        exact append_ok h hd hc i hi _ bs hu hn (by omega)
theorem sync_any {w : World} {p : Nat} {D : Nat → Prop} {v : Nat → Value} {A : AD} (h : DiskIs w p D v A) (i : Nat) (hi : i < 2) : Calls Try.prog 40 #[.pointer (some ⟨p, 0, none⟩), .int .i64 ((i : Nat) : Int)] w fun e w' => e = .returned (.int .i64 (chE A)) ∧ Now D p (syD A i) w w' := by
  cases hd : A.dead with
  | true =>
    have e1 : chE A = 3 := by simp [chE, hd]
    have e2 : syD A i = A := by simp [syD, hd]
    rw [e1, e2]
    exact sync_dead h hd _
  | false =>
    by_cases hc : A.calls = 0
    · have e1 : chE A = 3 := by simp [chE, hd, hc]
      have e2 : syD A i = { A with dead := true } := by simp [syD, hd, hc]
      rw [e1, e2]
      exact sync_kill h hd hc i hi
    · have e1 : chE A = 0 := by simp [chE, hd, hc]
      have e2 : syD A i = A.tick.synced i := by simp [syD, hd, hc]
      rw [e1, e2]
      exact sync_ok h hd hc i hi
theorem truncate_any {w : World} {p : Nat} {D : Nat → Prop} {v : Nat → Value} {A : AD} (h : DiskIs w p D v A) (i : Nat) (hi : i < 2) (n : Nat) (hn : n ≤ (A.x i).length) : Calls Try.prog 75 #[.pointer (some ⟨p, 0, none⟩), .int .i64 ((i : Nat) : Int), .int .i64 ((n : Nat) : Int)] w fun e w' => e = .returned (.int .i64 (chE A)) ∧ Now D p (trD A i n) w w' := by
  cases hd : A.dead with
  | true =>
    have e1 : chE A = 3 := by simp [chE, hd]
    have e2 : trD A i n = A := by simp [trD, hd]
    rw [e1, e2]
    exact truncate_dead h hd _ _
  | false =>
    by_cases hc : A.calls = 0
    · have e1 : chE A = 3 := by simp [chE, hd, hc]
      have e2 : trD A i n = { A with dead := true } := by simp [trD, hd, hc]
      rw [e1, e2]
      exact truncate_kill h hd hc i hi n hn
    · have e1 : chE A = 0 := by simp [chE, hd, hc]
      have e2 : trD A i n = A.tick.cut i n := by simp [trD, hd, hc]
      rw [e1, e2]
      exact truncate_ok h hd hc i hi n hn

section
variable {w W W' : World} {L : List (Value × Thing)} {M : List (Nat × Obj)} {p : Nat} {A : AD}
theorem kjNew (hw : Below w.heap.size w W) (c : Int) (h0 : 0 ≤ c) (h1 : c ≤ 1048576) : Calls Try.prog 31 #[.int .i64 c] W fun x W' => ∃ p, x = .returned (.tuple #[.pointer (some ⟨p, 0, none⟩), .int .i64 0]) ∧ Kj w W' [] [] p (AD.new c) :=
  (new_at c h0 h1 W W.heap.size rfl).mono fun _ _ ⟨hx, hN, _, hb⟩ => ⟨_, hx, Kj.start hw hN rfl hb⟩
theorem kjAppend (h : Kj w W L M p A) (i : Nat) (hi : i < 2) (a : Option Addr) (n c : Nat) (bs : List UInt8) (hm : (.slice a n c, Thing.bytes bs) ∈ L) :
    Calls Try.prog 23 #[.pointer (some ⟨p, 0, none⟩), .int .i64 ((i : Nat) : Int), .slice a n c] W fun x W' => x = .returned (.int .i64 (apE A bs.length)) ∧ Kj w W' L M p (apD A i bs) := by
  obtain ⟨D, v, F, h1, h2, h3, h4, h5⟩ := h.step
  obtain ⟨b1, b2⟩ : BytesIn F W (.slice a n c) bs := h4 _ hm
  obtain ⟨hl, _⟩ := bytes_len b1
  subst hl
  exact (append_any h1 i hi a c bs b1 fun hne k hk => (h3 k (b2 hne k hk)).2).mono fun x W' ⟨hx, hN⟩ => ⟨hx, h5 _ _ hN⟩
theorem kjSync (h : Kj w W L M p A) (i : Nat) (hi : i < 2) : Calls Try.prog 40 #[.pointer (some ⟨p, 0, none⟩), .int .i64 ((i : Nat) : Int)] W fun x W' => x = .returned (.int .i64 (chE A)) ∧ Kj w W' L M p (syD A i) := by
  obtain ⟨D, v, F, h1, _, _, _, h5⟩ := h.step
  exact (sync_any h1 i hi).mono fun x W' ⟨hx, hN⟩ => ⟨hx, h5 _ _ hN⟩
theorem kjTruncate (h : Kj w W L M p A) (i : Nat) (hi : i < 2) (n : Nat) (hn : n ≤ (A.x i).length) : Calls Try.prog 75 #[.pointer (some ⟨p, 0, none⟩), .int .i64 ((i : Nat) : Int), .int .i64 ((n : Nat) : Int)] W fun x W' => x = .returned (.int .i64 (chE A)) ∧ Kj w W' L M p (trD A i n) := by
  obtain ⟨D, v, F, h1, _, _, _, h5⟩ := h.step
  exact (truncate_any h1 i hi n hn).mono fun x W' ⟨hx, hN⟩ => ⟨hx, h5 _ _ hN⟩
theorem kjRead (h : Kj w W L M p A) (i : Nat) (hi : i < 2) : Calls Try.prog 24 #[.pointer (some ⟨p, 0, none⟩), .int .i64 ((i : Nat) : Int)] W fun x W' => ∃ a c, x = .returned (.slice a (rdX A i).length c) ∧ Kj w W' ((.slice a (rdX A i).length c, Thing.bytes (rdX A i)) :: L) M p A := by
  obtain ⟨D, v, F, h1, _, _, _, _⟩ := h.step
  cases hd : A.dead with
  | true =>
    have e1 : rdX A i = [] := by simp [rdX, hd]
    rw [e1]
    refine (read_none h1 _ (.inl hd)).mono ?_
    rintro x W' ⟨rfl, hW⟩
    subst hW
    exact ⟨none, 0, rfl, h.add (Below.refl _ _) _ _ fun F _ _ _ => ⟨.inl ⟨rfl, rfl⟩, fun hne => (hne rfl).elim⟩⟩
  | false =>
    have e1 : rdX A i = A.x i := by simp [rdX, hd]
    rw [e1]
    refine (read_ok h1 hd i hi).mono ?_
    rintro x W' ⟨r, rfl, hF⟩
    obtain ⟨a, c, rfl, _⟩ := hF.1.form
    exact ⟨a, c, rfl, h.add hF.2.2 _ _ fun F _ _ _ => ⟨hF.1, fun _ k hk => .inr (hF.2.1 k hk)⟩⟩
theorem kjFree (h : Kj w W L M p A) : Calls Try.prog 66 #[.pointer (some ⟨p, 0, none⟩)] W fun x W' => x = .returned (.int .i64 (frE A)) ∧ W' = W := by
  obtain ⟨D, v, F, h1, _, _, _, h5⟩ := h.step
  cases hd : A.dead with
  | true =>
    have e1 : frE A = 0 := by simp [frE, hd]
    rw [e1]; exact free_dead h1 hd
  | false =>
    have e1 : frE A = A.cap - (A.x 0).length - (A.x 1).length := by simp [frE, hd]
    rw [e1]; exact free_alive h1 hd
theorem kjFuse (h : Kj w W L M p A) (c k : Int) (hc : c ≤ 9223372036854775807) : Calls Try.prog 11 #[.pointer (some ⟨p, 0, none⟩), .int .i64 c, .int .i64 k] W fun x W' => x = .returned (.tuple #[]) ∧ Kj w W' L M p (fuD A c k) := by
  obtain ⟨D, v, F, h1, _, _, _, h5⟩ := h.step
  cases hd : A.dead with
  | true =>
    have e1 : fuD A c k = A := by simp [fuD, hd]
    rw [e1]
    exact (fuse_dead h1 hd c k).mono fun x W' ⟨hx, hW⟩ => ⟨hx, by rw [hW]; exact h⟩
  | false =>
    have e1 : fuD A c k = A.fused c k := by simp [fuD, hd]
    rw [e1]
    exact (nFuse (Now.start h1) hd c k hc).mono fun x W' ⟨hx, hN⟩ => ⟨hx, h5 _ _ hN⟩
theorem kjCrash (h : Kj w W L M p A) (a b c d : Int) : Calls Try.prog 16 #[.pointer (some ⟨p, 0, none⟩), .agg #[.int .i64 a, .int .i64 b, .int .i64 c, .int .i64 d]] W fun x W' => x = .returned (.tuple #[]) ∧ Kj w W' L M p (A.crashed (kp a b c d)) := by
  obtain ⟨D, v, F, h1, _, _, _, h5⟩ := h.step
  exact (crash4 h1 a b c d).mono fun x W' ⟨hx, hN⟩ => ⟨hx, h5 _ _ hN⟩
theorem kjSyncHead (h : Kj w W L M p A) : Calls Try.prog 30 #[.pointer (some ⟨p, 0, none⟩)] W fun x W' => x = .returned (.int .i64 (chE A)) ∧ Kj w W' L M p (shA A) := by
  obtain ⟨D, v, F, h1, _, _, _, h5⟩ := h.step
  exact (nSyncHead_any (Now.start h1)).mono fun x W' ⟨hx, hN⟩ => ⟨hx, h5 _ _ hN⟩
theorem kjSave (h : Kj w W L M p A) (s e l : Nat) (hf : (HeadD.mk s e l).fits) :
    Calls Try.prog 74 #[.pointer (some ⟨p, 0, none⟩), .agg #[.int .u64 ((s : Nat) : Int), .int .u64 ((e : Nat) : Int), .int .u8 ((l : Nat) : Int)]] W fun x W' => ∃ s' e' l' : Nat, x = .returned (.tuple #[.agg #[.int .u64 ((s' : Nat) : Int), .int .u64 ((e' : Nat) : Int), .int .u8 ((l' : Nat) : Int)], .int .i64 (saveE A ⟨s, e, l⟩)]) ∧ saveH A ⟨s, e, l⟩ = ⟨s', e', l'⟩ ∧ Kj w W' L M p (saveD A ⟨s, e, l⟩) := by
  obtain ⟨D, v, F, h1, _, _, _, h5⟩ := h.step
  exact (headOk.save D p A W W s e l (Now.start h1) hf).mono fun x W' ⟨hx, hN⟩ => ⟨_, _, _, hx, rfl, h5 _ _ hN⟩
theorem kjLoad (h : Kj w W L M p A) : Calls Try.prog 50 #[.pointer (some ⟨p, 0, none⟩)] W fun x W' => ∃ s' e' l' : Nat, x = .returned (.tuple #[.agg #[.int .u64 ((s' : Nat) : Int), .int .u64 ((e' : Nat) : Int), .int .u8 ((l' : Nat) : Int)], .int .i64 (loadE A)]) ∧ loadH A = ⟨s', e', l'⟩ ∧ Kj w W' L M p A := by
  obtain ⟨D, v, F, h1, _, _, _, h5⟩ := h.step
  exact (headOk.load D p A W W (Now.start h1)).mono fun x W' ⟨hx, hN⟩ => ⟨_, _, _, hx, rfl, h5 _ _ hN⟩

theorem row_in {α : Type} {F : Nat → Prop} {E : World → Value → α → Prop} {W : World} {e : TypeId} {v : Value} {xs : List α} {vs : List Value} (h1 : W.ownsRow 0 e 1 v xs.length vs) (hF : ∀ k, v.ownBlock = some k → F k) (h2 : ∀ (i : Nat) x, xs[i]? = some x → ∃ u, vs[i]? = some u ∧ E W u x) : ListIn F E W v xs := by
  rcases h1.2 with ⟨rfl, h0⟩ | ⟨g, cap, cur, rfl, _, _, h4, _⟩
  · exact .inl ⟨⟨_, _, rfl⟩, List.eq_nil_of_length_eq_zero h0⟩
  · refine .inr ⟨g, 0, cap, rfl, h4, hF g rfl, fun i x hx => ?_⟩
    obtain ⟨u, e1, e2⟩ := h2 i x hx
    have hc := h1.cells (g := g) rfl _ _ e1
    rw [Addr.add_mid] at hc
    exact ⟨u, hc, e2⟩
theorem scanN_in {w W : World} {vo vk : Value} {out : List (List (List UInt8))} {kept : List (List UInt8)} (h : ScanN w vo out vk kept W) {F : Nat → Prop} (hF : ∀ k, w.heap.size ≤ k → k < W.heap.size → F k) : BatsIn F W vo out := by
  obtain ⟨vs, h1, h2⟩ := h.outs
  refine row_in h1 (fun k hk => hF k (h.new k hk) (h1.lt k hk).2) fun i x hx => ?_
  obtain ⟨u, e1, e2, _⟩ := h2 i x hx
  refine ⟨u, e1, ?_⟩
  obtain ⟨⟨us, g1, g2⟩, g3⟩ := e2
  refine row_in g1 (fun k hk => hF k (g3 k hk) (g1.lt k hk).2) fun j y hy => ?_
  obtain ⟨u2, k1, k2⟩ := g2 j y hy
  exact ⟨u2, k1, bytes_of_owns k2.own, fun _ k hk => hF k (k2.new k hk) (k2.own.lt k hk).2⟩
theorem kjScan (h : Kj w W L M p A) (a : Option Addr) (n c : Nat) (b : List UInt8) (hm : (.slice a n c, Thing.bytes b) ∈ L) (hl : n ≤ 1048576) : Calls Try.prog 51 #[.slice a n c] W fun x W' => ∃ va vc bs m e, x = .returned (.tuple #[.slice va bs.length vc, .int .i64 ((m : Nat) : Int), .int .i64 e]) ∧ ScanIs b bs m e ∧ Kj w W' ((.slice va bs.length vc, Thing.bats bs) :: L) M p A := by
  refine (landScanN_any a n c b W (h.byt hm) hl).mono ?_
  rintro x W' ⟨v, bs, m, e, vk, kept, rfl, hs, hN⟩
  obtain ⟨va, vc, rfl⟩ := hN.formO
  exact ⟨va, vc, bs, m, e, rfl, hs, h.add hN.bb _ _ fun F _ _ _ => scanN_in hN fun k h1 h2 => .inr ⟨h1, h2⟩⟩
theorem kjPut (h : Kj w W L M p A) (u : Value) (rows : List (List UInt8)) (hr : RowsAt W u rows) : Calls Try.prog 22 #[u] W fun x W' => ∃ a c, x = .returned (.tuple #[.slice a (bputOf rows).length c, .int .i64 (bputErr rows)]) ∧ Kj w W' ((.slice a (bputOf rows).length c, Thing.bytes (bputOf rows)) :: L) M p A := by
  refine (landPut_any u rows W hr).mono ?_
  rintro x W' ⟨v, rfl, hv, hb, hn⟩
  obtain ⟨a, c, rfl, _⟩ := hv.form
  exact ⟨a, c, rfl, h.add hb _ _ fun F _ _ _ => ⟨hv, fun hne k hk => .inr ⟨hn hne k hk, hv.lt hne k hk⟩⟩⟩
theorem kjLong (h : Kj w W L M p A) (u : Value) (rows : List (List UInt8)) (hr : RowsAt W u rows) : Calls Try.prog 25 #[u] W fun x W' => x = .returned (.tuple #[.int .i64 (((bputOf rows).length : Nat) : Int), .int .i64 (bputErr rows)]) ∧ Kj w W' L M p A :=
  (landLong_any u rows W hr).mono fun _ _ ⟨hx, hb⟩ => ⟨hx, h.later hb⟩
end
end Go.Proofs.Ytflfiobicapopaa

namespace Go.Proofs.Ytflfiobicapopaa
open Go.RowKit

/-- A head's cells. -/
def hAgg (h : HeadD) : Value := .agg #[.int .u64 ((h.s : Nat) : Int), .int .u64 ((h.e : Nat) : Int), .int .u8 ((h.l : Nat) : Int)]

set_option maxHeartbeats 400000 in
theorem live_any (s e l : Nat) (hl : l < 256) (w : World) : Calls Try.prog 35 #[.agg #[.int .u64 ((s : Nat) : Int), .int .u64 ((e : Nat) : Int), .int .u8 ((l : Nat) : Int)]] w fun x w' => x = .returned (.int .i64 ((l : Nat) : Int)) ∧ w' = w.alloc (.cells #[.int .u64 ((s : Nat) : Int), .int .u64 ((e : Nat) : Int), .int .u8 ((l : Nat) : Int)] 37) := by
  have hl' : (l : Int) < 256 := by omega
  go_enter Try.func35, Try.ntmps35
  go_wp2
  go_ret
  exact ⟨rfl, rfl⟩

set_option maxHeartbeats 400000 in
theorem other_any (s e l : Nat) (hl : l ≤ 1) (w : World) : Calls Try.prog 36 #[.agg #[.int .u64 ((s : Nat) : Int), .int .u64 ((e : Nat) : Int), .int .u8 ((l : Nat) : Int)]] w fun x w' => x = .returned (.int .i64 ((1 - l : Nat) : Int)) ∧ Below w.heap.size w w' := by
  have hl' : ((1 - l : Nat) : Int) = 1 - (l : Int) := by omega
  rw [hl']
  go_enter Try.func36, Try.ntmps36
  go_wp2_with fail
  refine (live_any s e l (by omega) _).mono ?_
  rintro x w2 ⟨rfl, rfl⟩
  go_wp2
  go_ret
  exact ⟨rfl, ((Below.refl _ w).alloc (Nat.le_refl _) _).alloc (by simp) _⟩

/-- What a journal is in memory. -/
def jCells (g p : Nat) (h : HeadD) : Array Value := #[.pointer (some ⟨g, 0, none⟩), .pointer (some ⟨p, 0, none⟩), .int .u64 ((h.s : Nat) : Int), .int .u64 ((h.e : Nat) : Int), .int .u8 ((h.l : Nat) : Int)]
/-- A journal that is none. -/
def NoJour (w : World) (q : Value) : Prop := q = .pointer none ∨ ∃ g, q = .pointer (some ⟨g, 0, none⟩) ∧ w.cell? ⟨g, 0, none⟩ = some (.pointer none)

theorem NoJour.kept {w w' : World} {q : Value} (h : NoJour w q) (hb : Below w.heap.size w w') : NoJour w' q := by
  rcases h with h | ⟨g, h, hc⟩
  · exact .inl h
  · exact .inr ⟨g, h, by rw [hb.cell (p := ⟨g, 0, none⟩) (World.block_lt_of_cell? w _ hc)]; exact hc⟩
theorem infoJour : ∃ j, Try.prog.info? 66 = some j := has_info _ (by kernel_rfl)
set_option maxHeartbeats 400000 in
theorem jmade_yes (g : Nat) (w : World) (h : w.cell? ⟨g, 0, none⟩ = some (.pointer (some ⟨g, 0, none⟩))) : Calls Try.prog 34 #[.pointer (some ⟨g, 0, none⟩)] w fun x w' => x = .returned (.bool true) ∧ w' = w := by
  obtain ⟨j, hj⟩ := infoJour
  have he := run_eql_ptr_same (P := Try.prog) w ⟨g, 0, none⟩ Try.underlying30 hj
  clear hj
  go_enter Try.func34, Try.ntmps34
  go_wp2
  go_ret
  exact ⟨rfl, rfl⟩
set_option maxHeartbeats 400000 in
theorem jmade_not {w : World} {q : Value} (h : NoJour w q) : Calls Try.prog 34 #[q] w fun e w' => e = .returned (.bool false) ∧ w' = w := by
  rcases h with rfl | ⟨b, rfl, hc⟩
  · go_enter Try.func34, Try.ntmps34
    go_wp2
    go_ret
    exact ⟨rfl, rfl⟩
  · have he := run_eql_nil_ptr (P := Try.prog) w ⟨b, 0, none⟩ Try.underlying30
    go_enter Try.func34, Try.ntmps34
    go_wp2
    go_ret
    exact ⟨rfl, rfl⟩

section
variable {w W W' : World} {L : List (Value × Thing)} {M : List (Nat × Obj)} {p : Nat} {A : AD}
set_option maxHeartbeats 400000 in
theorem kjShorten (h : Kj w W L M p A) (i : Nat) (hi : i < 2) (n : Nat) : Calls Try.prog 44 #[.pointer (some ⟨p, 0, none⟩), .int .i64 ((i : Nat) : Int), .int .i64 ((n : Nat) : Int)] W fun x W' => x = .returned (.int .i64 (snE A i n)) ∧ Kj w W' L M p (snD A i n) := by
  have HK := hide h
  clear h
  go_enter Try.func44, Try.ntmps44
  go_wp2_with fail
  refine (kjRead (unhide HK) i hi).mono ?_
  rintro x W1 ⟨a, c, rfl, hk⟩
  have HK1 : Hid (Kj w W1 L M p A) := hk.lessL fun q hq => List.mem_cons_of_mem _ hq
  clear hk HK
  by_cases hc : (rdX A i).length ≤ n
  · have hc' : ((rdX A i).length : Int) ≤ (n : Int) := by omega
    have HE : Hid (snE A i n = 0 ∧ snD A i n = A) := ⟨if_pos hc, if_pos hc⟩
    clear hc
    generalize (rdX A i).length = m at *
    go_wp2_with fail
    go_ret
    rw [(unhide HE).1, (unhide HE).2]
    exact ⟨rfl, unhide HK1⟩
  · have hc' : ¬ ((rdX A i).length : Int) ≤ (n : Int) := by omega
    have HE : Hid (snE A i n = chE A ∧ snD A i n = trD A i n) := ⟨if_neg hc, if_neg hc⟩
    have HN : Hid (n ≤ (A.x i).length) := by
      show _ ≤ _
      unfold rdX at hc
      split at hc
      · simp at hc
      · omega
    clear hc
    generalize (rdX A i).length = m at *
    go_wp2_with fail
    refine (kjTruncate (unhide HK1) i hi n (unhide HN)).mono ?_
    rintro x W2 ⟨rfl, hk⟩
    have HK2 := hide hk
    clear hk HK1
    go_wp2_with fail
    go_ret
    rw [(unhide HE).1, (unhide HE).2]
    exact ⟨rfl, unhide HK2⟩

/-- A head is kept in a block of ours, at o. -/
def keptAt (cs : Array Value) (o : Nat) (h : HeadD) : Array Value := ((cs.setIfInBounds o (.int .u64 ((h.s : Nat) : Int))).setIfInBounds (o + 1) (.int .u64 ((h.e : Nat) : Int))).setIfInBounds (o + 2) (.int .u8 ((h.l : Nat) : Int))
set_option maxRecDepth 100000 in
set_option maxHeartbeats 1000000 in
theorem kjKeep (h : Kj w W L M p A) (s e l : Nat) (hf : (HeadD.mk s e l).fits) (i : Nat) {g o : Nat} {cs : Array Value} {t : TypeId} (hi : M[i]? = some (g, Obj.cells cs t (0, 0))) (ho : o = 0 ∨ o = 2) (x y z : Value) (h0 : cs[o]? = some x) (h1 : cs[o + 1]? = some y) (h2 : cs[o + 2]? = some z) :
    Calls Try.prog 42 #[.pointer (some ⟨p, 0, none⟩), .agg #[.int .u64 ((s : Nat) : Int), .int .u64 ((e : Nat) : Int), .int .u8 ((l : Nat) : Int)], .pointer (some ⟨g, o, none⟩)] W fun x W' => x = .returned (.int .i64 (saveE A ⟨s, e, l⟩)) ∧ (saveE A ⟨s, e, l⟩ ≠ 0 → Kj w W' L M p (saveD A ⟨s, e, l⟩)) ∧ (saveE A ⟨s, e, l⟩ = 0 → Kj w W' L (M.set i (g, Obj.cells (keptAt cs o (HeadD.mk s e l).next) t (0, 0))) p (saveD A ⟨s, e, l⟩)) := by
  have HK := hide (h.new (.cells #[.int .u64 ((s : Nat) : Int), .int .u64 ((e : Nat) : Int), .int .u8 ((l : Nat) : Int)] 37))
  have HF := hide hf
  have HI := hide hi
  have H0 := hide h0
  have H1 := hide h1
  have H2 := hide h2
  have HM : Hid ((g, Obj.cells cs t (0, 0)) ∈ M) := List.mem_of_getElem? hi
  clear h hf hi h0 h1 h2
  go_enter Try.func42, Try.ntmps42
  go_upto_region 1 with fail
  generalize hW1 : W.alloc (.cells #[.int .u64 ((s : Nat) : Int), .int .u64 ((e : Nat) : Int), .int .u8 ((l : Nat) : Int)] 37) = W1 at *
  have HW1 := hide hW1
  clear hW1
  have c0 : W1.cell? ⟨W.heap.size, 0, none⟩ = some (.int .u64 ((s : Nat) : Int)) := (unhide HK).cell (List.mem_cons_self ..) 0
  have c1 : W1.cell? ⟨W.heap.size, 1, none⟩ = some (.int .u64 ((e : Nat) : Int)) := (unhide HK).cell (List.mem_cons_self ..) 1
  have c2 : W1.cell? ⟨W.heap.size, 2, none⟩ = some (.int .u8 ((l : Nat) : Int)) := (unhide HK).cell (List.mem_cons_self ..) 2
  go_wp2_with fail
  refine (kjSave (unhide HK) s e l (unhide HF)).mono ?_
  rintro x2 W2 ⟨s', e', l', rfl, hH, hk⟩
  have HH := hide hH
  have HK2 := hide ((hk.drop 1).new (.cells #[.int .u64 ((s' : Nat) : Int), .int .u64 ((e' : Nat) : Int), .int .u8 ((l' : Nat) : Int)] 37))
  clear hH hk HK c0 c1 c2 HW1
  obtain ⟨E, hE⟩ : ∃ E, saveE A ⟨s, e, l⟩ = E := ⟨_, rfl⟩
  rw [hE]
  have HE := hide hE
  clear hE
  go_upto_region 2 with fail
  generalize hW3 : W2.alloc (.cells #[.int .u64 ((s' : Nat) : Int), .int .u64 ((e' : Nat) : Int), .int .u8 ((l' : Nat) : Int)] 37) = W3 at *
  clear hW3
  by_cases h0 : E = 0
  · subst h0
    have HS : Hid (saveH A ⟨s, e, l⟩ = (HeadD.mk s e l).next) := by show _ = _; rw [saveH, if_pos (unhide HE)]
    have e1 : (HeadD.mk s e l).next = ⟨s', e', l'⟩ := by rw [← unhide HS, unhide HH]
    have d0 : W3.cell? ⟨W2.heap.size, 0, none⟩ = some (.int .u64 ((s' : Nat) : Int)) := (unhide HK2).cell (List.mem_cons_self ..) 0
    have d1 : W3.cell? ⟨W2.heap.size, 1, none⟩ = some (.int .u64 ((e' : Nat) : Int)) := (unhide HK2).cell (List.mem_cons_self ..) 1
    have d2 : W3.cell? ⟨W2.heap.size, 2, none⟩ = some (.int .u8 ((l' : Nat) : Int)) := (unhide HK2).cell (List.mem_cons_self ..) 2
    have HK3 : Hid (Kj w (((W3.setCell ⟨g, o, none⟩ (.int .u64 ((s' : Nat) : Int))).setCell ⟨g, o + 1, none⟩ (.int .u64 ((e' : Nat) : Int))).setCell ⟨g, o + 2, none⟩ (.int .u8 ((l' : Nat) : Int))) L (M.set i (g, Obj.cells (keptAt cs o (HeadD.mk s e l).next) t (0, 0))) p (saveD A ⟨s, e, l⟩)) := by
      show Kj _ _ _ _ _ _
      rw [e1]
      exact ((unhide HK2).drop 1).set3 i (unhide HI) o _ _ _
    clear e1
    have g0 : W3.cell? ⟨g, o, none⟩ = some x := ((unhide HK2).cell (List.mem_cons_of_mem _ (unhide HM)) o).trans (unhide H0)
    have g1 : W3.cell? ⟨g, o + 1, none⟩ = some y := ((unhide HK2).cell (List.mem_cons_of_mem _ (unhide HM)) (o + 1)).trans (unhide H1)
    have g2 : W3.cell? ⟨g, o + 2, none⟩ = some z := ((unhide HK2).cell (List.mem_cons_of_mem _ (unhide HM)) (o + 2)).trans (unhide H2)
    have f0 : W3.frozen? ⟨g, o, none⟩ = false := (unhide HK2).frozen (List.mem_cons_of_mem _ (unhide HM)) o
    have f1 : W3.frozen? ⟨g, o + 1, none⟩ = false := (unhide HK2).frozen (List.mem_cons_of_mem _ (unhide HM)) (o + 1)
    have f2 : W3.frozen? ⟨g, o + 2, none⟩ = false := (unhide HK2).frozen (List.mem_cons_of_mem _ (unhide HM)) (o + 2)
    clear HI H0 H1 H2
    rcases ho with rfl | rfl
    · go_wp2_with fail
      go_ret
      exact ⟨ret_int (unhide HE).symm, fun e => (e (unhide HE)).elim, fun _ => unhide HK3⟩
    · go_wp2_with fail
      go_ret
      exact ⟨ret_int (unhide HE).symm, fun e => (e (unhide HE)).elim, fun _ => unhide HK3⟩
  · have h0' : (E == 0) = false := beq_eq_false_iff_ne.2 h0
    have H0N := hide h0
    clear h0
    go_wp2_with fail
    go_ret
    exact ⟨ret_int (unhide HE).symm, fun _ => (unhide HK2).drop 1, fun e => (unhide H0N ((unhide HE).symm.trans e)).elim⟩
end

set_option maxRecDepth 100000 in
set_option maxHeartbeats 4000000 in
/-- The steps are done in turn, up to the first one that has an error. -/
theorem inTurn_any (n : Nat) (hn : n ≤ 1000) (b c : Nat) (K : Nat → FuncId) (caps : Nat → Array Value) (R : Nat → World → Prop) (Fin : Int → World → Prop) (W : World)
    (hent : ∀ i, i < n → ∀ W, (callFunc (K i) (caps i)).run Try.prog W = .ok (.enter (K i) (caps i)) W)
    (hcell : ∀ i W, i < n → R i W → W.cell? ⟨b, i, none⟩ = some (.func (.func (K i)) #[] (caps i)))
    (hstep : ∀ i W, i < n → R i W → Calls Try.prog (K i) (caps i) W fun x W' => ∃ E : Int, x = .returned (.int .i64 E) ∧ (E = 0 → R (i + 1) W') ∧ (E ≠ 0 → Fin E W'))
    (h0 : R 0 W) : Calls Try.prog 37 #[.slice (some ⟨b, 0, none⟩) n c] W fun x W' => ∃ E : Int, x = .returned (.int .i64 E) ∧ (E = 0 → R n W') ∧ (E ≠ 0 → Fin E W') := by
  have HE := hide hent
  have HC := hide hcell
  have HS := hide hstep
  have H0 := hide h0
  clear hent hcell hstep h0
  go_enter Try.func37, Try.ntmps37
  go_wp2_with fail
  go_loopw [8] (fun i W => ∃ j : Nat, j ≤ n ∧ i = .int .i64 j ∧ R j W) (fun i _ => n - (intOf i).toNat)
  case atStart => exact ⟨0, Nat.zero_le _, rfl, unhide H0⟩
  case round =>
    obtain ⟨j, hj, rfl, hR⟩ := hrel
    have HR := hide hR
    clear hR
    by_cases hlt : j < n
    · have i0 : (0 : Int) ≤ (j : Int) := by omega
      have i1 : (j : Int) < (n : Int) := by omega
      have c0 := unhide HC j wr hlt (unhide HR)
      have he := unhide HE j hlt
      obtain ⟨k, hk⟩ : ∃ k, K j = k := ⟨_, rfl⟩
      obtain ⟨cp, hcp⟩ : ∃ cp, caps j = cp := ⟨_, rfl⟩
      have HST := hide (unhide HS j wr hlt (unhide HR))
      rw [hk, hcp] at c0 he HST
      clear hk hcp
      go_wp2_with fail
      refine (unhide HST).mono ?_
      rintro x W2 ⟨E, rfl, h1, h2⟩
      have H1 := hide h1
      have H2 := hide h2
      clear h1 h2 c0 he HST
      by_cases hE : E = 0
      · subst hE
        go_wp2_with fail
        exact ⟨⟨j + 1, by omega, by go_num, unhide H1 trivial⟩, by simp [intOf]; omega⟩
      · have hE' : (E != 0) = true := bne_iff_ne.2 hE
        have HNE := hide hE
        clear hE
        go_wp2_with fail
        go_ret
        exact ⟨E, rfl, fun e => (unhide HNE e).elim, fun e => unhide H2 e⟩
    · have e : n = j := by omega
      subst e
      go_wp2_with fail
      go_ret
      exact ⟨0, rfl, fun _ => unhide HR, fun e => (e rfl).elim⟩
end Go.Proofs.Ytflfiobicapopaa

namespace Go.Proofs.Ytflfiobicapopaa
open Go.RowKit

theorem Kj.drewN {w W : World} {L : List (Value × Thing)} {M : List (Nat × Obj)} {p : Nat} {A : AD} (h : Kj w W L M p A) (n : Nat) : Kj w (W.drewN n) L M p A := h.later (below_drewN W n)
theorem enters_of {f : FuncId} {fn : Func} {c : Code} (hf : Try.prog.funcs[f]? = some fn) (hname : (fn.name == "runtime.NumGoroutine") = false) (hb : fn.body = some c) (args : Array Value) (w : World) : (callFunc f args).run Try.prog w = .ok (.enter f args) w := enters_fn hf hname hb args w

section
variable {w W : World} {L : List (Value × Thing)} {M : List (Nat × Obj)} {p : Nat} {A : AD} {jb sb bb db hb nb g : Nat} {t1 t2 t3 t4 : TypeId} {hd : HeadD}

theorem enters_clos_append (args : Array Value) (w : World) : (callFunc 45 args).run Try.prog w = .ok (.enter 45 args) w := enters_of Try.func45 (by kernel_rfl) rfl args w
set_option maxRecDepth 100000 in
set_option maxHeartbeats 2000000 in
theorem clos_append (h : Kj w W L M p A) {seg : Nat} {ba : Option Addr} {bn bc : Nat} (hj : (jb, Obj.cells #[.pointer (some ⟨g, 0, none⟩)] t1 (0, 0)) ∈ M) (hs : (sb, Obj.cells #[.int .i64 ((seg : Nat) : Int)] t2 (0, 0)) ∈ M) (hbm : (bb, Obj.cells #[.slice ba bn bc] t3 (0, 0)) ∈ M) (hg : (g, Obj.cells (jCells g p hd) t4 (0, 0)) ∈ M) (hseg : seg < 2) (bs : List UInt8) (hL : (.slice ba bn bc, Thing.bytes bs) ∈ L) :
    Calls Try.prog 45 #[.pointer (some ⟨jb, 0, none⟩), .pointer (some ⟨sb, 0, none⟩), .pointer (some ⟨bb, 0, none⟩)] W fun x W' => x = .returned (.int .i64 (apE A bs.length)) ∧ Kj w W' L M p (apD A seg bs) := by
  have HK := hide h
  have HM0 := hide hj
  have HM1 := hide hs
  have HM2 := hide hbm
  have HM3 := hide hg
  have c0 : W.cell? ⟨jb, 0, none⟩ = some (.pointer (some ⟨g, 0, none⟩)) := h.cell hj 0
  have c1 : W.cell? ⟨sb, 0, none⟩ = some (.int .i64 ((seg : Nat) : Int)) := h.cell hs 0
  have c2 : W.cell? ⟨bb, 0, none⟩ = some (.slice ba bn bc) := h.cell hbm 0
  have c3 : W.cell? ⟨g, 1, none⟩ = some (.pointer (some ⟨p, 0, none⟩)) := h.cell hg 1
  clear h hj hs hbm hg
  go_enter Try.func45, Try.ntmps45
  go_wp2_with fail
  go_region_held3 (fun w' => w'.cell? ⟨jb, 0, none⟩ = some (.pointer (some ⟨g, 0, none⟩)) ∧ w'.cell? ⟨sb, 0, none⟩ = some (.int .i64 ((seg : Nat) : Int)) ∧ w'.cell? ⟨bb, 0, none⟩ = some (.slice ba bn bc) ∧ w'.cell? ⟨g, 1, none⟩ = some (.pointer (some ⟨p, 0, none⟩))) (go_keep)
    (first | (go_at_call 23; refine (kjAppend ((unhide HK).drewN _) seg hseg ba bn bc bs hL).mono ?_; rintro x W2 ⟨rfl, hk⟩; have q0 : W2.cell? ⟨jb, 0, none⟩ = some (.pointer (some ⟨g, 0, none⟩)) := hk.cell (unhide HM0) 0; have q1 : W2.cell? ⟨sb, 0, none⟩ = some (.int .i64 ((seg : Nat) : Int)) := hk.cell (unhide HM1) 0; have q2 : W2.cell? ⟨bb, 0, none⟩ = some (.slice ba bn bc) := hk.cell (unhide HM2) 0; have q3 : W2.cell? ⟨g, 1, none⟩ = some (.pointer (some ⟨p, 0, none⟩)) := hk.cell (unhide HM3) 1))
  go_wp2
  go_ret
  exact ⟨rfl, hk⟩

theorem enters_clos_switch1 (args : Array Value) (w : World) : (callFunc 38 args).run Try.prog w = .ok (.enter 38 args) w := enters_of Try.func38 (by kernel_rfl) rfl args w
set_option maxRecDepth 100000 in
set_option maxHeartbeats 2000000 in
theorem clos_switch1 (h : Kj w W L M p A) {seg : Nat} {ba : Option Addr} {bn bc : Nat} (hj : (jb, Obj.cells #[.pointer (some ⟨g, 0, none⟩)] t1 (0, 0)) ∈ M) (hs : (sb, Obj.cells #[.int .i64 ((seg : Nat) : Int)] t2 (0, 0)) ∈ M) (hbm : (bb, Obj.cells #[.slice ba bn bc] t3 (0, 0)) ∈ M) (hg : (g, Obj.cells (jCells g p hd) t4 (0, 0)) ∈ M) (hseg : seg < 2) (bs : List UInt8) (hL : (.slice ba bn bc, Thing.bytes bs) ∈ L) :
    Calls Try.prog 38 #[.pointer (some ⟨jb, 0, none⟩), .pointer (some ⟨sb, 0, none⟩), .pointer (some ⟨bb, 0, none⟩)] W fun x W' => x = .returned (.int .i64 (apE A bs.length)) ∧ Kj w W' L M p (apD A seg bs) := by
  have HK := hide h
  have HM0 := hide hj
  have HM1 := hide hs
  have HM2 := hide hbm
  have HM3 := hide hg
  have c0 : W.cell? ⟨jb, 0, none⟩ = some (.pointer (some ⟨g, 0, none⟩)) := h.cell hj 0
  have c1 : W.cell? ⟨sb, 0, none⟩ = some (.int .i64 ((seg : Nat) : Int)) := h.cell hs 0
  have c2 : W.cell? ⟨bb, 0, none⟩ = some (.slice ba bn bc) := h.cell hbm 0
  have c3 : W.cell? ⟨g, 1, none⟩ = some (.pointer (some ⟨p, 0, none⟩)) := h.cell hg 1
  clear h hj hs hbm hg
  go_enter Try.func38, Try.ntmps38
  go_wp2_with fail
  go_region_held3 (fun w' => w'.cell? ⟨jb, 0, none⟩ = some (.pointer (some ⟨g, 0, none⟩)) ∧ w'.cell? ⟨sb, 0, none⟩ = some (.int .i64 ((seg : Nat) : Int)) ∧ w'.cell? ⟨bb, 0, none⟩ = some (.slice ba bn bc) ∧ w'.cell? ⟨g, 1, none⟩ = some (.pointer (some ⟨p, 0, none⟩))) (go_keep)
    (first | (go_at_call 23; refine (kjAppend ((unhide HK).drewN _) seg hseg ba bn bc bs hL).mono ?_; rintro x W2 ⟨rfl, hk⟩; have q0 : W2.cell? ⟨jb, 0, none⟩ = some (.pointer (some ⟨g, 0, none⟩)) := hk.cell (unhide HM0) 0; have q1 : W2.cell? ⟨sb, 0, none⟩ = some (.int .i64 ((seg : Nat) : Int)) := hk.cell (unhide HM1) 0; have q2 : W2.cell? ⟨bb, 0, none⟩ = some (.slice ba bn bc) := hk.cell (unhide HM2) 0; have q3 : W2.cell? ⟨g, 1, none⟩ = some (.pointer (some ⟨p, 0, none⟩)) := hk.cell (unhide HM3) 1))
  go_wp2
  go_ret
  exact ⟨rfl, hk⟩

theorem enters_clos_sync (args : Array Value) (w : World) : (callFunc 46 args).run Try.prog w = .ok (.enter 46 args) w := enters_of Try.func46 (by kernel_rfl) rfl args w
set_option maxRecDepth 100000 in
set_option maxHeartbeats 2000000 in
theorem clos_sync (h : Kj w W L M p A) {seg : Nat} (hj : (jb, Obj.cells #[.pointer (some ⟨g, 0, none⟩)] t1 (0, 0)) ∈ M) (hs : (sb, Obj.cells #[.int .i64 ((seg : Nat) : Int)] t2 (0, 0)) ∈ M) (hg : (g, Obj.cells (jCells g p hd) t4 (0, 0)) ∈ M) (hseg : seg < 2) :
    Calls Try.prog 46 #[.pointer (some ⟨jb, 0, none⟩), .pointer (some ⟨sb, 0, none⟩)] W fun x W' => x = .returned (.int .i64 (chE A)) ∧ Kj w W' L M p (syD A seg) := by
  have HK := hide h
  have HM0 := hide hj
  have HM1 := hide hs
  have HM2 := hide hg
  have c0 : W.cell? ⟨jb, 0, none⟩ = some (.pointer (some ⟨g, 0, none⟩)) := h.cell hj 0
  have c1 : W.cell? ⟨sb, 0, none⟩ = some (.int .i64 ((seg : Nat) : Int)) := h.cell hs 0
  have c2 : W.cell? ⟨g, 1, none⟩ = some (.pointer (some ⟨p, 0, none⟩)) := h.cell hg 1
  clear h hj hs hg
  go_enter Try.func46, Try.ntmps46
  go_wp2_with fail
  go_region_held3 (fun w' => w'.cell? ⟨jb, 0, none⟩ = some (.pointer (some ⟨g, 0, none⟩)) ∧ w'.cell? ⟨sb, 0, none⟩ = some (.int .i64 ((seg : Nat) : Int)) ∧ w'.cell? ⟨g, 1, none⟩ = some (.pointer (some ⟨p, 0, none⟩))) (go_keep)
    (first | (go_at_call 40; refine (kjSync ((unhide HK).drewN _) seg hseg).mono ?_; rintro x W2 ⟨rfl, hk⟩; have q0 : W2.cell? ⟨jb, 0, none⟩ = some (.pointer (some ⟨g, 0, none⟩)) := hk.cell (unhide HM0) 0; have q1 : W2.cell? ⟨sb, 0, none⟩ = some (.int .i64 ((seg : Nat) : Int)) := hk.cell (unhide HM1) 0; have q2 : W2.cell? ⟨g, 1, none⟩ = some (.pointer (some ⟨p, 0, none⟩)) := hk.cell (unhide HM2) 1))
  go_wp2
  go_ret
  exact ⟨rfl, hk⟩

theorem enters_clos_switch2 (args : Array Value) (w : World) : (callFunc 39 args).run Try.prog w = .ok (.enter 39 args) w := enters_of Try.func39 (by kernel_rfl) rfl args w
set_option maxRecDepth 100000 in
set_option maxHeartbeats 2000000 in
theorem clos_switch2 (h : Kj w W L M p A) {seg : Nat} (hj : (jb, Obj.cells #[.pointer (some ⟨g, 0, none⟩)] t1 (0, 0)) ∈ M) (hs : (sb, Obj.cells #[.int .i64 ((seg : Nat) : Int)] t2 (0, 0)) ∈ M) (hg : (g, Obj.cells (jCells g p hd) t4 (0, 0)) ∈ M) (hseg : seg < 2) :
    Calls Try.prog 39 #[.pointer (some ⟨jb, 0, none⟩), .pointer (some ⟨sb, 0, none⟩)] W fun x W' => x = .returned (.int .i64 (chE A)) ∧ Kj w W' L M p (syD A seg) := by
  have HK := hide h
  have HM0 := hide hj
  have HM1 := hide hs
  have HM2 := hide hg
  have c0 : W.cell? ⟨jb, 0, none⟩ = some (.pointer (some ⟨g, 0, none⟩)) := h.cell hj 0
  have c1 : W.cell? ⟨sb, 0, none⟩ = some (.int .i64 ((seg : Nat) : Int)) := h.cell hs 0
  have c2 : W.cell? ⟨g, 1, none⟩ = some (.pointer (some ⟨p, 0, none⟩)) := h.cell hg 1
  clear h hj hs hg
  go_enter Try.func39, Try.ntmps39
  go_wp2_with fail
  go_region_held3 (fun w' => w'.cell? ⟨jb, 0, none⟩ = some (.pointer (some ⟨g, 0, none⟩)) ∧ w'.cell? ⟨sb, 0, none⟩ = some (.int .i64 ((seg : Nat) : Int)) ∧ w'.cell? ⟨g, 1, none⟩ = some (.pointer (some ⟨p, 0, none⟩))) (go_keep)
    (first | (go_at_call 40; refine (kjSync ((unhide HK).drewN _) seg hseg).mono ?_; rintro x W2 ⟨rfl, hk⟩; have q0 : W2.cell? ⟨jb, 0, none⟩ = some (.pointer (some ⟨g, 0, none⟩)) := hk.cell (unhide HM0) 0; have q1 : W2.cell? ⟨sb, 0, none⟩ = some (.int .i64 ((seg : Nat) : Int)) := hk.cell (unhide HM1) 0; have q2 : W2.cell? ⟨g, 1, none⟩ = some (.pointer (some ⟨p, 0, none⟩)) := hk.cell (unhide HM2) 1))
  go_wp2
  go_ret
  exact ⟨rfl, hk⟩

theorem enters_clos_switch4 (args : Array Value) (w : World) : (callFunc 43 args).run Try.prog w = .ok (.enter 43 args) w := enters_of Try.func43 (by kernel_rfl) rfl args w
set_option maxRecDepth 100000 in
set_option maxHeartbeats 2000000 in
theorem clos_switch4 (h : Kj w W L M p A) {seg : Nat} (hj : (jb, Obj.cells #[.pointer (some ⟨g, 0, none⟩)] t1 (0, 0)) ∈ M) (hs : (sb, Obj.cells #[.int .i64 ((seg : Nat) : Int)] t2 (0, 0)) ∈ M) (hg : (g, Obj.cells (jCells g p hd) t4 (0, 0)) ∈ M) (hseg : seg < 2) :
    Calls Try.prog 43 #[.pointer (some ⟨jb, 0, none⟩), .pointer (some ⟨sb, 0, none⟩)] W fun x W' => x = .returned (.int .i64 (snE A seg 0)) ∧ Kj w W' L M p (snD A seg 0) := by
  have HK := hide h
  have HM0 := hide hj
  have HM1 := hide hs
  have HM2 := hide hg
  have c0 : W.cell? ⟨jb, 0, none⟩ = some (.pointer (some ⟨g, 0, none⟩)) := h.cell hj 0
  have c1 : W.cell? ⟨sb, 0, none⟩ = some (.int .i64 ((seg : Nat) : Int)) := h.cell hs 0
  have c2 : W.cell? ⟨g, 1, none⟩ = some (.pointer (some ⟨p, 0, none⟩)) := h.cell hg 1
  clear h hj hs hg
  go_enter Try.func43, Try.ntmps43
  go_wp2_with fail
  go_region_held3 (fun w' => w'.cell? ⟨jb, 0, none⟩ = some (.pointer (some ⟨g, 0, none⟩)) ∧ w'.cell? ⟨sb, 0, none⟩ = some (.int .i64 ((seg : Nat) : Int)) ∧ w'.cell? ⟨g, 1, none⟩ = some (.pointer (some ⟨p, 0, none⟩))) (go_keep)
    (first | (go_at_call 44; refine (kjShorten ((unhide HK).drewN _) seg hseg 0).mono ?_; rintro x W2 ⟨rfl, hk⟩; have q0 : W2.cell? ⟨jb, 0, none⟩ = some (.pointer (some ⟨g, 0, none⟩)) := hk.cell (unhide HM0) 0; have q1 : W2.cell? ⟨sb, 0, none⟩ = some (.int .i64 ((seg : Nat) : Int)) := hk.cell (unhide HM1) 0; have q2 : W2.cell? ⟨g, 1, none⟩ = some (.pointer (some ⟨p, 0, none⟩)) := hk.cell (unhide HM2) 1))
  go_wp2
  go_ret
  exact ⟨rfl, hk⟩

end
end Go.Proofs.Ytflfiobicapopaa
