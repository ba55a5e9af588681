/- Save of package head upon a disk. No statement of the seat is proved here. -/
import Derived.Test.YtoabpjdpdcpdlaaHeadImplR
import Derived.Test.YtoabpjdpdcpdlaaHeadOk
namespace Go.Proofs.Ytoabpjdpdcpdlaa
open Go.RowKit

/-- What is kept along Save and Load: the disk, and heads M that are none of its blocks. -/
structure Sv (D0 : Nat → Prop) (w0 W : World) (M : List (Nat × Array Value)) (p : Nat) (A : AD) : Prop where
  dsk : ∃ D v, DiskIs W p D v A ∧ Step D0 D w0 W ∧ ∀ q ∈ M, ¬ D q.1
  ce : ∀ q ∈ M, W.heap[q.1]? = some (Obj.cells q.2 24 (0, 0))
section
variable {D0 : Nat → Prop} {w0 W W' : World} {M : List (Nat × Array Value)} {p : Nat} {A : AD}
theorem Sv.start (h : Now D0 p A w0 W) : Sv D0 w0 W [] p A := by
  obtain ⟨D, v, h1, h2⟩ := h
  exact ⟨⟨D, v, h1, h2, fun q hq => by cases hq⟩, fun q hq => by cases hq⟩
theorem Sv.now (h : Sv D0 w0 W M p A) : Now D0 p A w0 W := by
  obtain ⟨D, v, h1, h2, _⟩ := h.dsk
  exact ⟨D, v, h1, h2⟩
theorem Sv.later (h : Sv D0 w0 W M p A) (hb : Below W.heap.size W W') : Sv D0 w0 W' M p A := by
  obtain ⟨D, v, h1, h2, h3⟩ := h.dsk
  refine ⟨⟨D, v, h1.kept hb.size fun k hk => hb.block k (h1.lt k hk), h2.trans ⟨hb.os, hb.tape, hb.output, hb.size, fun k hk _ => hb.block k hk, fun _ x => .inl x⟩, h3⟩, fun q hq => ?_⟩
  exact (hb.block _ (Array.getElem?_eq_some_iff.1 (h.ce q hq)).1).trans (h.ce q hq)
theorem Sv.newC (h : Sv D0 w0 W M p A) (cs : Array Value) : Sv D0 w0 (W.alloc (.cells cs 24)) ((W.heap.size, cs) :: M) p A := by
  have h' := h.later ((Below.refl _ W).alloc (Nat.le_refl _) (.cells cs 24))
  obtain ⟨D, v, h1, h2, h3⟩ := h.dsk
  refine ⟨⟨D, v, h1.alloc _, h2.alloc _, fun q hq => ?_⟩, fun q hq => ?_⟩
  · rcases List.mem_cons.1 hq with e | e
    · rw [e]; exact fun hd => Nat.lt_irrefl _ (h1.lt _ hd)
    · exact h3 q e
  · rcases List.mem_cons.1 hq with e | e
    · rw [e]; exact heap_alloc_new W _
    · exact h'.ce q e
theorem Sv.step (h : Sv D0 w0 W M p A) : ∃ D, Now D p A W W ∧ (∀ k, D k → k < W.heap.size) ∧ ∀ A' W', Now D p A' W W' → Sv D0 w0 W' M p A' := by
  obtain ⟨D, v, h1, h2, h3⟩ := h.dsk
  refine ⟨D, Now.start h1, h1.lt, fun A' W' hn => ?_⟩
  obtain ⟨D', v', k1, k2⟩ := hn
  have hlt : ∀ q ∈ M, q.1 < W.heap.size := fun q hq => (Array.getElem?_eq_some_iff.1 (h.ce q hq)).1
  refine ⟨⟨D', v', k1, h2.trans k2, fun q hq => k2.notOwn (hlt q hq) (h3 q hq)⟩, fun q hq => (k2.block _ (hlt q hq) (h3 q hq)).trans (h.ce q hq)⟩
/-- The three cells of a head that is kept. -/
theorem Sv.three (h : Sv D0 w0 W M p A) {g : Nat} {x y z : Value} (hm : (g, #[x, y, z]) ∈ M) : W.cell? ⟨g, 0, none⟩ = some x ∧ W.cell? ⟨g, 1, none⟩ = some y ∧ W.cell? ⟨g, 2, none⟩ = some z ∧ W.frozen? ⟨g, 0, none⟩ = false ∧ W.frozen? ⟨g, 1, none⟩ = false ∧ W.frozen? ⟨g, 2, none⟩ = false :=
  ⟨cell_of_row _ _ 0 _ _ _ (h.ce _ hm), cell_of_row _ _ 1 _ _ _ (h.ce _ hm), cell_of_row _ _ 2 _ _ _ (h.ce _ hm), frozen_of_row _ _ _ _ _ (h.ce _ hm), frozen_of_row _ _ _ _ _ (h.ce _ hm), frozen_of_row _ _ _ _ _ (h.ce _ hm)⟩
/-- Behind a store into a head that is kept the disk stands. -/
theorem Sv.set3 (h : Sv D0 w0 W M p A) {g : Nat} {cs : Array Value} (hm : (g, cs) ∈ M) (hg : w0.heap.size ≤ g) (x y z : Value) : Now D0 p A w0 (((W.setCell ⟨g, 0, none⟩ x).setCell ⟨g, 1, none⟩ y).setCell ⟨g, 2, none⟩ z) := by
  obtain ⟨D, v, h1, h2, h3⟩ := h.dsk
  have hn := h3 _ hm
  refine ⟨D, v, h1.kept (by simp [World.setCell]) fun k hk => ?_, ((h2.setNew (p := ⟨g, 0, none⟩) hg x).setNew (p := ⟨g, 1, none⟩) hg y).setNew (p := ⟨g, 2, none⟩) hg z⟩
  have hk2 : k ≠ g := fun e => hn (e ▸ hk)
  rw [Below.heap_setCell _ _ _ _ hk2, Below.heap_setCell _ _ _ _ hk2, Below.heap_setCell _ _ _ _ hk2]

/-- Write of 32 bytes that lie in a new array. -/
theorem svWrite {W1 : World} (h : Sv D0 w0 W1 M p A) {g : Nat} {bs : List UInt8} (hA : Arr W1 g bs W) (hl : bs.length = 32) (i : Nat) (hi : i < 2) :
    Calls Try.prog 31 #[.pointer (some ⟨p, 0, none⟩), .int .i64 ((i : Nat) : Int), .slice (some ⟨g, 0, none⟩) 32 32] W fun e W' => e = .returned (.int .i64 (chE A)) ∧ Sv D0 w0 W' M p (wrA A i bs) := by
  have hb : Bytes W (.slice (some ⟨g, 0, none⟩) 32 32) bs := by
    have h2 := hA.bytes (o := 0) (n := 32) (c := 32) (by omega) (Nat.le_refl _) (by decide)
    rwa [List.drop_zero, List.take_of_length_le (by omega)] at h2
  have hbb : Below W1.heap.size W1 W := hA.bb
  have h2 := h.later hbb
  obtain ⟨D, v, k1, k2, k3⟩ := h.dsk
  have kW : DiskIs W p D v A := k1.kept hbb.size fun k hk => hbb.block k (k1.lt k hk)
  have hng : ¬ D g := fun hd => by have := k1.lt g hd; have := hA.new; omega
  have hlt : ∀ q ∈ M, q.1 < W.heap.size := fun q hq => (Array.getElem?_eq_some_iff.1 (h2.ce q hq)).1
  have fin : ∀ A' W', Now D p A' W W' → Sv D0 w0 W' M p A' := fun A' W' hn => by
    obtain ⟨D', v', j1, j2⟩ := hn
    have k2' : Step D0 D w0 W := k2.trans ⟨hbb.os, hbb.tape, hbb.output, hbb.size, fun k hk _ => hbb.block k hk, fun _ x => .inl x⟩
    exact ⟨⟨D', v', j1, k2'.trans j2, fun q hq => j2.notOwn (hlt q hq) (k3 q hq)⟩, fun q hq => (j2.block _ (hlt q hq) (k3 q hq)).trans (h2.ce q hq)⟩
  cases hd : A.dead with
  | true =>
    have e1 : chE A = 3 := by simp [chE, hd]
    have e2 : wrA A i bs = A := by simp [wrA, hd]
    rw [e1, e2]
    exact (write_dead kW hd i _ _ _).mono fun e W' ⟨he, hn⟩ => ⟨he, fin _ _ hn⟩
  | false =>
    by_cases hc : A.calls = 0
    · have e1 : chE A = 3 := by simp [chE, hd, hc]
      have e2 : wrA A i bs = { A with dead := true } := by simp [wrA, hd, hc]
      rw [e1, e2]
      exact (write_kill kW hd hc i hi _ _).mono fun e W' ⟨he, hn⟩ => ⟨he, fin _ _ hn⟩
    · have e1 : chE A = 0 := by simp [chE, hd, hc]
      have e2 : wrA A i bs = A.tick.wrote i bs := by simp [wrA, hd, hc]
      rw [e1, e2]
      exact (write_ok kW hd hc i hi _ _ bs hb (fun _ k hk => by simp [Value.ownBlock] at hk; subst hk; exact hng) hl).mono fun e W' ⟨he, hn⟩ => ⟨he, fin _ _ hn⟩
theorem svSyncHead (h : Sv D0 w0 W M p A) : Calls Try.prog 32 #[.pointer (some ⟨p, 0, none⟩)] W fun e W' => e = .returned (.int .i64 (chE A)) ∧ Sv D0 w0 W' M p (shA A) := by
  obtain ⟨D, hn, _, fin⟩ := h.step
  obtain ⟨D1, v1, k1, k2⟩ := hn
  have lift : ∀ A' W', Now D1 p A' W W' → Now D p A' W W' := fun A' W' hx => Now.trans k2 hx
  cases hd : A.dead with
  | true =>
    have e1 : chE A = 3 := by simp [chE, hd]
    have e2 : shA A = A := by simp [shA, hd]
    rw [e1, e2]
    exact (syncHead_dead k1 hd).mono fun e W' ⟨he, hx⟩ => ⟨he, fin _ _ (lift _ _ hx)⟩
  | false =>
    by_cases hc : A.calls = 0
    · have e1 : chE A = 3 := by simp [chE, hd, hc]
      have e2 : shA A = { A with dead := true } := by simp [shA, hd, hc]
      rw [e1, e2]
      exact (syncHead_kill k1 hd hc).mono fun e W' ⟨he, hx⟩ => ⟨he, fin _ _ (lift _ _ hx)⟩
    · have e1 : chE A = 0 := by simp [chE, hd, hc]
      have e2 : shA A = A.tick.syncedHead := by simp [shA, hd, hc]
      rw [e1, e2]
      exact (syncHead_ok k1 hd hc).mono fun e W' ⟨he, hx⟩ => ⟨he, fin _ _ (lift _ _ hx)⟩
end

theorem chE_or (A : AD) : chE A = 0 ∨ chE A = 3 := by
  unfold chE
  split
  · exact .inr rfl
  · split
    · exact .inr rfl
    · exact .inl rfl

set_option maxRecDepth 100000 in
set_option maxHeartbeats 8000000 in
theorem hSave_any (D : Nat → Prop) (p : Nat) (A : AD) (w0 w : World) (s e l : Nat) (hn : Now D p A w0 w) (hf : (HeadD.mk s e l).fits) : Calls Try.prog 21 #[.pointer (some ⟨p, 0, none⟩), .agg #[.int .u64 ((s : Nat) : Int), .int .u64 ((e : Nat) : Int), .int .u8 ((l : Nat) : Int)]] w fun e' w' => e' = .returned (.tuple #[(saveH A ⟨s, e, l⟩).val, .int .i64 (saveE A ⟨s, e, l⟩)]) ∧ Now D p (saveD A ⟨s, e, l⟩) w0 w' := by
  obtain ⟨t, ht⟩ : ∃ t, (s + 1) % 18446744073709551616 = t := ⟨_, rfl⟩
  have HNX : Hid ((HeadD.mk s e l).next = ⟨t, e, l⟩) := by show _ = _; rw [← ht]; rfl
  have HF : Hid (HeadD.mk t e l).fits := by have h2 := HeadD.next_fits hf; rw [unhide HNX] at h2; exact h2
  have HW0 : Hid (w0.heap.size ≤ w.heap.size) := hn.size
  have hsv := (Sv.start hn).newC #[.int .u64 ((t : Nat) : Int), .int .u64 ((e : Nat) : Int), .int .u8 ((l : Nat) : Int)]
  have hsv2 := hsv.newC #[.int .u64 0, .int .u64 0, .int .u8 0]
  have hsz : (w.alloc (.cells #[.int .u64 ((t : Nat) : Int), .int .u64 ((e : Nat) : Int), .int .u8 ((l : Nat) : Int)] 24)).heap.size = w.heap.size + 1 := by simp
  rw [hsz] at hsv2
  have HS := hide hsv2
  have hwr : IntKind.u64.wrap ((s : Int) + 1) = ((t : Nat) : Int) := by rw [IntKind.wrap_u64]; omega
  clear hn hf hsv hsv2 hsz
  go_enter Try.func21, Try.ntmps21
  go_upto_region 2 with fail
  generalize (w.alloc (.cells #[.int .u64 ((t : Nat) : Int), .int .u64 ((e : Nat) : Int), .int .u8 ((l : Nat) : Int)] 24)).alloc (.cells #[.int .u64 0, .int .u64 0, .int .u8 0] 24) = W1 at *
  have n0 := ((unhide HS).three (g := w.heap.size) (x := .int .u64 ((t : Nat) : Int)) (y := .int .u64 ((e : Nat) : Int)) (z := .int .u8 ((l : Nat) : Int)) (by simp)).1
  have n1 := ((unhide HS).three (g := w.heap.size) (x := .int .u64 ((t : Nat) : Int)) (y := .int .u64 ((e : Nat) : Int)) (z := .int .u8 ((l : Nat) : Int)) (by simp)).2.1
  have n2 := ((unhide HS).three (g := w.heap.size) (x := .int .u64 ((t : Nat) : Int)) (y := .int .u64 ((e : Nat) : Int)) (z := .int .u8 ((l : Nat) : Int)) (by simp)).2.2.1
  have HT := hide ht
  clear ht hwr
  cases hr : (HeadD.mk t e l).right with
  | false =>
    have HE : Hid (saveE A ⟨s, e, l⟩ = 50) := by show _ = _; simp [saveE, unhide HNX, hr]
    have HH : Hid (saveH A ⟨s, e, l⟩ = ⟨0, 0, 0⟩) := by show _ = _; simp [saveH, unhide HE]
    have HDD : Hid (saveD A ⟨s, e, l⟩ = A) := by show _ = _; simp [saveD, unhide HNX, hr]
    have HR := hide hr
    clear hr
    go_wp2_with fail
    refine (hBytes_no t e l _ (unhide HF) (unhide HR)).mono ?_
    rintro e' W2 ⟨rfl, hb2⟩
    have HS2 := hide ((unhide HS).later hb2)
    clear hb2 n0 n1 n2
    obtain ⟨r0, r1, r2, f0, f1, f2⟩ := (unhide HS2).three (g := w.heap.size + 1) (x := .int .u64 0) (y := .int .u64 0) (z := .int .u8 0) (by simp)
    go_wp2_with fail
    refine bodyPost_ret (results_ct rfl _ _ _ _ _ _ _ rfl (set3_heap ((unhide HS2).ce (w.heap.size + 1, #[.int .u64 0, .int .u64 0, .int .u8 0]) (by simp)) _ _ _) Try.underlying24 rfl (by kernel_rfl)) rfl ?_
    exact ⟨by rw [unhide HH, unhide HE]; rfl, by rw [unhide HDD]; exact (unhide HS2).set3 (cs := #[.int .u64 0, .int .u64 0, .int .u8 0]) (by simp) (by have := unhide HW0; omega) _ _ _⟩
  | true =>
    have HR := hide hr
    have HLB := hide (HeadD.mk t e l).bytes_len
    clear hr
    go_wp2_with fail
    refine (hBytes_ok t e l _ (unhide HF) (unhide HR)).mono ?_
    rintro e' W2 ⟨g, rfl, hA2⟩
    have HA2 := hide hA2
    have HS2 := hide ((unhide HS).later hA2.bb)
    clear hA2 n0 n1 n2
    have n0 := ((unhide HS2).three (g := w.heap.size) (x := .int .u64 ((t : Nat) : Int)) (y := .int .u64 ((e : Nat) : Int)) (z := .int .u8 ((l : Nat) : Int)) (by simp)).1
    have n1 := ((unhide HS2).three (g := w.heap.size) (x := .int .u64 ((t : Nat) : Int)) (y := .int .u64 ((e : Nat) : Int)) (z := .int .u8 ((l : Nat) : Int)) (by simp)).2.1
    have n2 := ((unhide HS2).three (g := w.heap.size) (x := .int .u64 ((t : Nat) : Int)) (y := .int .u64 ((e : Nat) : Int)) (z := .int .u8 ((l : Nat) : Int)) (by simp)).2.2.1
    go_wp2_with fail
    refine (hSlot_any t e l _ (unhide HF)).mono ?_
    rintro e' W3 ⟨rfl, hb3⟩
    have HA3 := hide ((unhide HA2).later hb3)
    clear hb3 HA2 HS2 n0 n1 n2
    have hmod : t % 2 < 2 := Nat.mod_lt _ (by decide)
    have HMOD := hide hmod
    clear hmod
    obtain ⟨i2, hi2⟩ : ∃ i2, t % 2 = i2 := ⟨_, rfl⟩
    rw [hi2] at HMOD ⊢
    have HI2 := hide hi2
    clear hi2
    go_wp2_with fail
    refine (svWrite (unhide HS) (unhide HA3) (unhide HLB) i2 (unhide HMOD)).mono ?_
    rintro e' W4 ⟨rfl, hs4⟩
    have HS4 := hide hs4
    clear hs4 HA3 HS
    rcases chE_or A with hc | hc
    · rw [hc]
      have HC := hide hc
      clear hc
      go_wp2_with fail
      refine (svSyncHead (unhide HS4)).mono ?_
      rintro e' W5 ⟨rfl, hs5⟩
      have HS5 := hide hs5
      clear hs5 HS4
      have HDD : Hid (saveD A ⟨s, e, l⟩ = shA (wrA A i2 (HeadD.mk t e l).bytes)) := by show _ = _; simp [saveD, unhide HNX, unhide HR, unhide HC, unhide HI2]
      have HE0 : Hid (saveE A ⟨s, e, l⟩ = chE (wrA A i2 (HeadD.mk t e l).bytes)) := by show _ = _; simp [saveE, unhide HNX, unhide HR, unhide HC, unhide HI2]
      rcases chE_or (wrA A i2 (HeadD.mk t e l).bytes) with hc2 | hc2
      · rw [hc2]
        have HE : Hid (saveE A ⟨s, e, l⟩ = 0) := (unhide HE0).trans hc2
        have HH : Hid (saveH A ⟨s, e, l⟩ = ⟨t, e, l⟩) := by show _ = _; simp [saveH, unhide HE, unhide HNX]
        clear hc2
        have n0 := ((unhide HS5).three (g := w.heap.size) (x := .int .u64 ((t : Nat) : Int)) (y := .int .u64 ((e : Nat) : Int)) (z := .int .u8 ((l : Nat) : Int)) (by simp)).1
        have n1 := ((unhide HS5).three (g := w.heap.size) (x := .int .u64 ((t : Nat) : Int)) (y := .int .u64 ((e : Nat) : Int)) (z := .int .u8 ((l : Nat) : Int)) (by simp)).2.1
        have n2 := ((unhide HS5).three (g := w.heap.size) (x := .int .u64 ((t : Nat) : Int)) (y := .int .u64 ((e : Nat) : Int)) (z := .int .u8 ((l : Nat) : Int)) (by simp)).2.2.1
        obtain ⟨r0, r1, r2, f0, f1, f2⟩ := (unhide HS5).three (g := w.heap.size + 1) (x := .int .u64 0) (y := .int .u64 0) (z := .int .u8 0) (by simp)
        go_wp2_with fail
        refine bodyPost_ret (results_ct rfl _ _ _ _ _ _ _ rfl (set3_heap ((unhide HS5).ce (w.heap.size + 1, #[.int .u64 0, .int .u64 0, .int .u8 0]) (by simp)) _ _ _) Try.underlying24 rfl (by kernel_rfl)) rfl ?_
        exact ⟨by rw [unhide HH, unhide HE]; rfl, by rw [unhide HDD]; exact (unhide HS5).set3 (cs := #[.int .u64 0, .int .u64 0, .int .u8 0]) (by simp) (by have := unhide HW0; omega) _ _ _⟩
      · rw [hc2]
        have HE : Hid (saveE A ⟨s, e, l⟩ = 3) := (unhide HE0).trans hc2
        have HH : Hid (saveH A ⟨s, e, l⟩ = ⟨0, 0, 0⟩) := by show _ = _; simp [saveH, unhide HE]
        clear hc2
        obtain ⟨r0, r1, r2, f0, f1, f2⟩ := (unhide HS5).three (g := w.heap.size + 1) (x := .int .u64 0) (y := .int .u64 0) (z := .int .u8 0) (by simp)
        go_wp2_with fail
        refine bodyPost_ret (results_ct rfl _ _ _ _ _ _ _ rfl (set3_heap ((unhide HS5).ce (w.heap.size + 1, #[.int .u64 0, .int .u64 0, .int .u8 0]) (by simp)) _ _ _) Try.underlying24 rfl (by kernel_rfl)) rfl ?_
        exact ⟨by rw [unhide HH, unhide HE]; rfl, by rw [unhide HDD]; exact (unhide HS5).set3 (cs := #[.int .u64 0, .int .u64 0, .int .u8 0]) (by simp) (by have := unhide HW0; omega) _ _ _⟩
    · rw [hc]
      have HDD : Hid (saveD A ⟨s, e, l⟩ = wrA A i2 (HeadD.mk t e l).bytes) := by show _ = _; simp [saveD, unhide HNX, unhide HR, hc, unhide HI2]
      have HE : Hid (saveE A ⟨s, e, l⟩ = 3) := by show _ = _; simp [saveE, unhide HNX, unhide HR, hc]
      have HH : Hid (saveH A ⟨s, e, l⟩ = ⟨0, 0, 0⟩) := by show _ = _; simp [saveH, unhide HE]
      clear hc
      obtain ⟨r0, r1, r2, f0, f1, f2⟩ := (unhide HS4).three (g := w.heap.size + 1) (x := .int .u64 0) (y := .int .u64 0) (z := .int .u8 0) (by simp)
      go_wp2_with fail
      refine bodyPost_ret (results_ct rfl _ _ _ _ _ _ _ rfl (set3_heap ((unhide HS4).ce (w.heap.size + 1, #[.int .u64 0, .int .u64 0, .int .u8 0]) (by simp)) _ _ _) Try.underlying24 rfl (by kernel_rfl)) rfl ?_
      exact ⟨by rw [unhide HH, unhide HE]; rfl, by rw [unhide HDD]; exact (unhide HS4).set3 (cs := #[.int .u64 0, .int .u64 0, .int .u8 0]) (by simp) (by have := unhide HW0; omega) _ _ _⟩
end Go.Proofs.Ytoabpjdpdcpdlaa

namespace Go.Proofs.Ytoabpjdpdcpdlaa
open Go.RowKit

theorem svHead {D0 : Nat → Prop} {w0 W : World} {M : List (Nat × Array Value)} {p : Nat} {A : AD} (h : Sv D0 w0 W M p A) (hd : A.dead = false) (i : Nat) (hi : i < 2) : Calls Try.prog 30 #[.pointer (some ⟨p, 0, none⟩), .int .i64 ((i : Nat) : Int)] W fun e W' => ∃ a c, e = .returned (.slice a 32 c) ∧ Bytes W' (.slice a 32 c) (A.sh i) ∧ Below W.heap.size W W' := by
  obtain ⟨D, v, h1, _⟩ := h.dsk
  refine (head_ok h1 hd i hi).mono ?_
  rintro e W' ⟨r, rfl, hF⟩
  obtain ⟨a, c, rfl, _⟩ := hF.1.form
  have hl : (A.sh i).length = 32 := h1.ok.sh i hi
  rw [hl] at hF ⊢
  exact ⟨a, c, rfl, hF.1, hF.2.2⟩
theorem svHead0 {D0 : Nat → Prop} {w0 W : World} {M : List (Nat × Array Value)} {p : Nat} {A : AD} (h : Sv D0 w0 W M p A) (hd : A.dead = false) : Calls Try.prog 30 #[.pointer (some ⟨p, 0, none⟩), .int .i64 0] W fun e W' => ∃ a c, e = .returned (.slice a 32 c) ∧ Bytes W' (.slice a 32 c) (A.sh 0) ∧ Below W.heap.size W W' := svHead h hd 0 (by decide)
theorem svHead1 {D0 : Nat → Prop} {w0 W : World} {M : List (Nat × Array Value)} {p : Nat} {A : AD} (h : Sv D0 w0 W M p A) (hd : A.dead = false) : Calls Try.prog 30 #[.pointer (some ⟨p, 0, none⟩), .int .i64 1] W fun e W' => ∃ a c, e = .returned (.slice a 32 c) ∧ Bytes W' (.slice a 32 c) (A.sh 1) ∧ Below W.heap.size W W' := svHead h hd 1 (by decide)
theorem svDead {D0 : Nat → Prop} {w0 W : World} {M : List (Nat × Array Value)} {p : Nat} {A : AD} (h : Sv D0 w0 W M p A) : Calls Try.prog 40 #[.pointer (some ⟨p, 0, none⟩)] W fun e W' => e = .returned (.bool A.dead) ∧ W' = W := nDead h.now

set_option maxRecDepth 100000 in
set_option maxHeartbeats 8000000 in
theorem hLoad_any (D : Nat → Prop) (p : Nat) (A : AD) (w0 w : World) (hn : Now D p A w0 w) : Calls Try.prog 23 #[.pointer (some ⟨p, 0, none⟩)] w fun e' w' => e' = .returned (.tuple #[(loadH A).val, .int .i64 (loadE A)]) ∧ Now D p A w0 w' := by
  have HW0 : Hid (w0.heap.size ≤ w.heap.size) := hn.size
  have HS := hide ((Sv.start hn).newC #[.int .u64 0, .int .u64 0, .int .u8 0])
  clear hn
  go_enter Try.func23, Try.ntmps23
  go_upto_region 1 with fail
  generalize w.alloc (.cells #[.int .u64 0, .int .u64 0, .int .u8 0] 24) = W1 at *
  go_wp2_with fail
  refine (svDead (unhide HS)).mono ?_
  rintro e' W2 ⟨rfl, hw2⟩
  rw [hw2]
  clear hw2
  cases hd : A.dead with
  | true =>
    have HE : Hid (loadE A = 3) := by show _ = _; simp [loadE, hd]
    have HH : Hid (loadH A = ⟨0, 0, 0⟩) := by show _ = _; simp [loadH, hd]
    clear hd
    obtain ⟨r0, r1, r2, f0, f1, f2⟩ := (unhide HS).three (g := w.heap.size) (x := .int .u64 0) (y := .int .u64 0) (z := .int .u8 0) (by simp)
    go_wp2_with fail
    refine bodyPost_ret (results_ct rfl _ _ _ _ _ _ _ rfl (set3_heap ((unhide HS).ce (w.heap.size, #[.int .u64 0, .int .u64 0, .int .u8 0]) (by simp)) _ _ _) Try.underlying24 rfl (by kernel_rfl)) rfl ?_
    exact ⟨by rw [unhide HH, unhide HE]; rfl, (unhide HS).set3 (cs := #[.int .u64 0, .int .u64 0, .int .u8 0]) (by simp) (unhide HW0) _ _ _⟩
  | false =>
    have HD := hide hd
    clear hd
    go_wp2_with fail
    refine (svHead0 (unhide HS) (unhide HD)).mono ?_
    rintro e' W3 ⟨a0, c0, rfl, hB0, hb3⟩
    have HS3 := hide ((unhide HS).later hb3)
    have HB0 := hide hB0
    clear hb3 hB0 HS
    go_wp2_with fail
    refine (svHead1 (unhide HS3) (unhide HD)).mono ?_
    rintro e' W4 ⟨a1, c1, rfl, hB1, hb4⟩
    have HS4 := hide ((unhide HS3).later hb4)
    have HB1 := hide hB1
    have HB0' : Hid (Bytes W4 (.slice a0 32 c0) (A.sh 0)) := (unhide HB0).kept fun k _ hk => hb4.block k hk
    clear hb4 hB1 HS3 HB0
    go_wp2_with fail
    refine (hPick_any _ _ _ _ _ (unhide HB0') (unhide HB1)).mono ?_
    rintro e' W5 ⟨rfl, hb5⟩
    have HS5 := hide ((unhide HS4).later hb5)
    clear hb5 HS4 HB0' HB1
    obtain ⟨⟨S, E, L⟩, hV⟩ : ∃ V, pickV (A.sh 0) (A.sh 1) = V := ⟨_, rfl⟩
    obtain ⟨X, hX⟩ : ∃ X, (pickH (A.sh 0) (A.sh 1)).isSome = X := ⟨_, rfl⟩
    have HVV : Hid ((pickV (A.sh 0) (A.sh 1)).val = .agg #[.int .u64 ((S : Nat) : Int), .int .u64 ((E : Nat) : Int), .int .u8 ((L : Nat) : Int)]) := by show _ = _; rw [hV]; rfl
    have HE0 : Hid (loadE A = if X then 0 else 50) := by show _ = _; simp [loadE, unhide HD, hX]
    have HH0 : Hid (loadH A = ⟨S, E, L⟩) := by show _ = _; simp [loadH, unhide HD, hV]
    have HZ0 : Hid (X = false → loadH A = ⟨0, 0, 0⟩) := fun h => by
      have h2 := hX.trans h
      simp [loadH, unhide HD, pickV, Option.isSome_eq_false_iff.1 h2 |> Option.isNone_iff_eq_none.1]
    rw [unhide HVV, hX]
    clear hV hX HVV
    cases X with
    | false =>
      have HE : Hid (loadE A = 50) := unhide HE0
      have HH : Hid (loadH A = ⟨0, 0, 0⟩) := unhide HZ0 rfl
      have HS6 := hide ((unhide HS5).newC #[.int .u64 ((S : Nat) : Int), .int .u64 ((E : Nat) : Int), .int .u8 ((L : Nat) : Int)])
      go_upto_region 7 with fail
      generalize W5.alloc (.cells #[.int .u64 ((S : Nat) : Int), .int .u64 ((E : Nat) : Int), .int .u8 ((L : Nat) : Int)] 24) = W6 at *
      obtain ⟨r0, r1, r2, f0, f1, f2⟩ := (unhide HS6).three (g := w.heap.size) (x := .int .u64 0) (y := .int .u64 0) (z := .int .u8 0) (by simp)
      go_wp2_with fail
      refine bodyPost_ret (results_ct rfl _ _ _ _ _ _ _ rfl (set3_heap ((unhide HS6).ce (w.heap.size, #[.int .u64 0, .int .u64 0, .int .u8 0]) (by simp)) _ _ _) Try.underlying24 rfl (by kernel_rfl)) rfl ?_
      exact ⟨by rw [unhide HH, unhide HE]; rfl, (unhide HS6).set3 (cs := #[.int .u64 0, .int .u64 0, .int .u8 0]) (by simp) (unhide HW0) _ _ _⟩
    | true =>
      have HE : Hid (loadE A = 0) := unhide HE0
      have HH : Hid (loadH A = ⟨S, E, L⟩) := unhide HH0
      have HS6 := hide ((unhide HS5).newC #[.int .u64 ((S : Nat) : Int), .int .u64 ((E : Nat) : Int), .int .u8 ((L : Nat) : Int)])
      go_upto_region 7 with fail
      generalize W5.alloc (.cells #[.int .u64 ((S : Nat) : Int), .int .u64 ((E : Nat) : Int), .int .u8 ((L : Nat) : Int)] 24) = W6 at *
      generalize W5.heap.size = g at *
      obtain ⟨r0, r1, r2, f0, f1, f2⟩ := (unhide HS6).three (g := w.heap.size) (x := .int .u64 0) (y := .int .u64 0) (z := .int .u8 0) (by simp)
      obtain ⟨n0, n1, n2, _⟩ := (unhide HS6).three (g := g) (x := .int .u64 ((S : Nat) : Int)) (y := .int .u64 ((E : Nat) : Int)) (z := .int .u8 ((L : Nat) : Int)) (by simp)
      go_wp2_with fail
      refine bodyPost_ret (results_ct rfl _ _ _ _ _ _ _ rfl (set3_heap ((unhide HS6).ce (w.heap.size, #[.int .u64 0, .int .u64 0, .int .u8 0]) (by simp)) _ _ _) Try.underlying24 rfl (by kernel_rfl)) rfl ?_
      exact ⟨by rw [unhide HH, unhide HE]; rfl, (unhide HS6).set3 (cs := #[.int .u64 0, .int .u64 0, .int .u8 0]) (by simp) (unhide HW0) _ _ _⟩

set_option maxRecDepth 100000 in
set_option maxHeartbeats 8000000 in
theorem hLoad_none (q : Value) (w : World) (h : NoDisk w q) : Calls Try.prog 23 #[q] w fun e' w' => e' = .returned (.tuple #[.agg #[.int .u64 0, .int .u64 0, .int .u8 0], .int .i64 1]) ∧ Below w.heap.size w w' := by
  have HN := hide (h.alloc (.cells #[.int .u64 0, .int .u64 0, .int .u8 0] 24))
  have HB := hide ((Below.refl _ w).alloc (Nat.le_refl _) (.cells #[.int .u64 0, .int .u64 0, .int .u8 0] 24))
  have HX := hide (heap_alloc_new w (.cells #[.int .u64 0, .int .u64 0, .int .u8 0] 24))
  clear h
  go_enter Try.func23, Try.ntmps23
  go_upto_region 1 with fail
  generalize w.alloc (.cells #[.int .u64 0, .int .u64 0, .int .u8 0] 24) = W1 at *
  go_wp2_with fail
  refine (dead_nil (unhide HN)).mono ?_
  rintro e' W2 ⟨rfl, hw⟩
  rw [hw]
  clear hw
  go_wp2_with fail
  refine (head_nil (unhide HN) 0).mono ?_
  rintro e' W2 ⟨rfl, hw⟩
  rw [hw]
  clear hw
  go_wp2_with fail
  refine (head_nil (unhide HN) 1).mono ?_
  rintro e' W2 ⟨rfl, hw⟩
  rw [hw]
  clear hw
  have r0 : W1.cell? ⟨w.heap.size, 0, none⟩ = some (.int .u64 0) := cell_of_row _ _ 0 _ _ _ (unhide HX)
  have r1 : W1.cell? ⟨w.heap.size, 1, none⟩ = some (.int .u64 0) := cell_of_row _ _ 1 _ _ _ (unhide HX)
  have r2 : W1.cell? ⟨w.heap.size, 2, none⟩ = some (.int .u8 0) := cell_of_row _ _ 2 _ _ _ (unhide HX)
  have f0 : W1.frozen? ⟨w.heap.size, 0, none⟩ = false := frozen_of_row _ _ _ _ _ (unhide HX)
  have f1 : W1.frozen? ⟨w.heap.size, 1, none⟩ = false := frozen_of_row _ _ _ _ _ (unhide HX)
  have f2 : W1.frozen? ⟨w.heap.size, 2, none⟩ = false := frozen_of_row _ _ _ _ _ (unhide HX)
  go_wp2_with fail
  refine bodyPost_ret (results_ct rfl _ _ _ _ _ _ _ rfl (set3_heap (unhide HX) _ _ _) Try.underlying24 rfl (by kernel_rfl)) rfl ?_
  exact ⟨rfl, set3_below (unhide HB) (Nat.le_refl _) _ _ _⟩

set_option maxRecDepth 100000 in
set_option maxHeartbeats 8000000 in
theorem hSave_none (q : Value) (w : World) (s e l : Nat) (h : NoDisk w q) (hf : (HeadD.mk s e l).fits) (hr : (HeadD.mk s e l).next.right = true) : Calls Try.prog 21 #[q, .agg #[.int .u64 ((s : Nat) : Int), .int .u64 ((e : Nat) : Int), .int .u8 ((l : Nat) : Int)]] w fun e' w' => e' = .returned (.tuple #[.agg #[.int .u64 0, .int .u64 0, .int .u8 0], .int .i64 1]) ∧ Below w.heap.size w w' := by
  obtain ⟨t, ht⟩ : ∃ t, (s + 1) % 18446744073709551616 = t := ⟨_, rfl⟩
  have hnx : (HeadD.mk s e l).next = ⟨t, e, l⟩ := by rw [← ht]; rfl
  have HF : Hid (HeadD.mk t e l).fits := by have h2 := HeadD.next_fits hf; rw [hnx] at h2; exact h2
  have HR : Hid ((HeadD.mk t e l).right = true) := by rw [hnx] at hr; exact hr
  have hwr : IntKind.u64.wrap ((s : Int) + 1) = ((t : Nat) : Int) := by rw [IntKind.wrap_u64]; omega
  have HN := hide ((h.alloc (.cells #[.int .u64 ((t : Nat) : Int), .int .u64 ((e : Nat) : Int), .int .u8 ((l : Nat) : Int)] 24)).alloc (.cells #[.int .u64 0, .int .u64 0, .int .u8 0] 24))
  have HB := hide (((Below.refl _ w).alloc (Nat.le_refl _) (.cells #[.int .u64 ((t : Nat) : Int), .int .u64 ((e : Nat) : Int), .int .u8 ((l : Nat) : Int)] 24)).alloc (by simp) (.cells #[.int .u64 0, .int .u64 0, .int .u8 0] 24))
  have hx := heap_alloc_new (w.alloc (.cells #[.int .u64 ((t : Nat) : Int), .int .u64 ((e : Nat) : Int), .int .u8 ((l : Nat) : Int)] 24)) (.cells #[.int .u64 0, .int .u64 0, .int .u8 0] 24)
  have hsz : (w.alloc (.cells #[.int .u64 ((t : Nat) : Int), .int .u64 ((e : Nat) : Int), .int .u8 ((l : Nat) : Int)] 24)).heap.size = w.heap.size + 1 := by simp
  rw [hsz] at hx
  have HX := hide hx
  have HX0 : Hid (((w.alloc (.cells #[.int .u64 ((t : Nat) : Int), .int .u64 ((e : Nat) : Int), .int .u8 ((l : Nat) : Int)] 24)).alloc (.cells #[.int .u64 0, .int .u64 0, .int .u8 0] 24)).heap[w.heap.size]? = some (.cells #[.int .u64 ((t : Nat) : Int), .int .u64 ((e : Nat) : Int), .int .u8 ((l : Nat) : Int)] 24 (0, 0))) := by
    show _ = _
    rw [Below.heap_alloc _ _ _ (by simp), heap_alloc_new]
  clear h hf hr hnx hx hsz
  go_enter Try.func21, Try.ntmps21
  go_upto_region 2 with fail
  generalize (w.alloc (.cells #[.int .u64 ((t : Nat) : Int), .int .u64 ((e : Nat) : Int), .int .u8 ((l : Nat) : Int)] 24)).alloc (.cells #[.int .u64 0, .int .u64 0, .int .u8 0] 24) = W1 at *
  have n0 : W1.cell? ⟨w.heap.size, 0, none⟩ = some (.int .u64 ((t : Nat) : Int)) := cell_of_row _ _ 0 _ _ _ (unhide HX0)
  have n1 : W1.cell? ⟨w.heap.size, 1, none⟩ = some (.int .u64 ((e : Nat) : Int)) := cell_of_row _ _ 1 _ _ _ (unhide HX0)
  have n2 : W1.cell? ⟨w.heap.size, 2, none⟩ = some (.int .u8 ((l : Nat) : Int)) := cell_of_row _ _ 2 _ _ _ (unhide HX0)
  have HT := hide ht
  clear ht hwr
  go_wp2_with fail
  refine (hBytes_ok t e l _ (unhide HF) (unhide HR)).mono ?_
  rintro e' W2 ⟨g, rfl, hA2⟩
  have hb2 : Below W1.heap.size W1 W2 := hA2.bb
  have hX2 := (hb2.block _ (Array.getElem?_eq_some_iff.1 (unhide HX0)).1).trans (unhide HX0)
  have HB2 := hide hb2
  clear n0 n1 n2 hA2 hb2
  have n0 : W2.cell? ⟨w.heap.size, 0, none⟩ = some (.int .u64 ((t : Nat) : Int)) := cell_of_row _ _ 0 _ _ _ hX2
  have n1 : W2.cell? ⟨w.heap.size, 1, none⟩ = some (.int .u64 ((e : Nat) : Int)) := cell_of_row _ _ 1 _ _ _ hX2
  have n2 : W2.cell? ⟨w.heap.size, 2, none⟩ = some (.int .u8 ((l : Nat) : Int)) := cell_of_row _ _ 2 _ _ _ hX2
  clear hX2
  go_wp2_with fail
  refine (hSlot_any t e l _ (unhide HF)).mono ?_
  rintro e' W3 ⟨rfl, hb3⟩
  have HB3 : Hid (Below W1.heap.size W1 W3) := (unhide HB2).trans (hb3.mono (unhide HB2).size)
  clear hb3 n0 n1 n2 HB2
  generalize t % 2 = i2 at *
  go_wp2_with fail
  refine (write_nil ((unhide HN).kept (unhide HB3) (Nat.le_refl _)) _ _ _ _).mono ?_
  rintro e' W4 ⟨rfl, hb4⟩
  have HB4 : Hid (Below W1.heap.size W1 W4) := (unhide HB3).trans (hb4.mono (unhide HB3).size)
  clear hb4 HB3
  have HX4 : Hid (W4.heap[w.heap.size + 1]? = some (.cells #[.int .u64 0, .int .u64 0, .int .u8 0] 24 (0, 0))) := ((unhide HB4).block _ (Array.getElem?_eq_some_iff.1 (unhide HX)).1).trans (unhide HX)
  have HB5 : Hid (Below w.heap.size w W4) := (unhide HB).trans ((unhide HB4).mono (unhide HB).size)
  have r0 : W4.cell? ⟨w.heap.size + 1, 0, none⟩ = some (.int .u64 0) := cell_of_row _ _ 0 _ _ _ (unhide HX4)
  have r1 : W4.cell? ⟨w.heap.size + 1, 1, none⟩ = some (.int .u64 0) := cell_of_row _ _ 1 _ _ _ (unhide HX4)
  have r2 : W4.cell? ⟨w.heap.size + 1, 2, none⟩ = some (.int .u8 0) := cell_of_row _ _ 2 _ _ _ (unhide HX4)
  have f0 : W4.frozen? ⟨w.heap.size + 1, 0, none⟩ = false := frozen_of_row _ _ _ _ _ (unhide HX4)
  have f1 : W4.frozen? ⟨w.heap.size + 1, 1, none⟩ = false := frozen_of_row _ _ _ _ _ (unhide HX4)
  have f2 : W4.frozen? ⟨w.heap.size + 1, 2, none⟩ = false := frozen_of_row _ _ _ _ _ (unhide HX4)
  go_wp2_with fail
  refine bodyPost_ret (results_ct rfl _ _ _ _ _ _ _ rfl (set3_heap (unhide HX4) _ _ _) Try.underlying24 rfl (by kernel_rfl)) rfl ?_
  exact ⟨rfl, set3_below (unhide HB5) (by omega) _ _ _⟩

/-- The landed package answers as the document says. -/
theorem headPure : HeadPure where
  right := fun s e l w hf => hRight_any s e l w hf
  bytes := fun s e l w hf => hBytes_any s e l w hf
  read := fun u b w h => hRead_any u b w h
  pick := fun u v zero one w hu hv => hPick_any u v zero one w hu hv
theorem headOk : HeadOk where
  pure := headPure
  save := fun D p A w0 w s e l hn hf => hSave_any D p A w0 w s e l hn hf
  load := fun D p A w0 w hn => hLoad_any D p A w0 w hn
  saveNone := fun q w s e l h hf hr => hSave_none q w s e l h hf hr
  loadNone := fun q w h => hLoad_none q w h
end Go.Proofs.Ytoabpjdpdcpdlaa
