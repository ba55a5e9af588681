/- For each call of a disk: one answer, and one next state, of the program's disk and of the document's. No statement of the seat is proved here. -/
import Derived.Test.YtbpjlkjokafdnaaTwin2
namespace Go.Proofs.Ytbpjlkjokafdnaa
open Go.RowKit

def RefB (f : FuncId) (A A' : AD) (err : Int) (s : Int) (bs : List UInt8) : Prop := ∀ (w : World) (B : Nat → Prop) (cs : Array Value) (a : Option Addr) (m q : Nat), RefV w B A cs → (∀ b, w.heap.size ≤ b → B b) → Bytes w (.slice a m q) bs → Calls Try.prog f #[.agg cs, .int .i64 s, .slice a m q] w fun e w' => ∃ cs', e = .returned (.tuple #[.agg cs', .int .i64 err]) ∧ RefV w' B A' cs' ∧ Below w.heap.size w w'
def DskB (f : FuncId) (A A' : AD) (err : Int) (s : Int) (bs : List UInt8) : Prop := ∀ (w : World) (D : Nat → Prop) (v : Nat → Value) (p : Nat) (a : Option Addr) (m q : Nat), DiskIs w p D v A → Bytes w (.slice a m q) bs → (bs ≠ [] → ∀ k, (Value.slice a m q).ownBlock = some k → ¬ D k) → Calls Try.prog f #[.pointer (some ⟨p, 0, none⟩), .int .i64 s, .slice a m q] w fun e w' => e = .returned (.int .i64 err) ∧ Now D p A' w w'

def RefS (f : FuncId) (A A' : AD) (err : Int) (s : Int) : Prop := ∀ (w : World) (B : Nat → Prop) (cs : Array Value), RefV w B A cs → (∀ b, w.heap.size ≤ b → B b) → Calls Try.prog f #[.agg cs, .int .i64 s] w fun e w' => ∃ cs', e = .returned (.tuple #[.agg cs', .int .i64 err]) ∧ RefV w' B A' cs' ∧ Below w.heap.size w w'
def DskS (f : FuncId) (A A' : AD) (err : Int) (s : Int) : Prop := ∀ (w : World) (D : Nat → Prop) (v : Nat → Value) (p : Nat), DiskIs w p D v A → Calls Try.prog f #[.pointer (some ⟨p, 0, none⟩), .int .i64 s] w fun e w' => e = .returned (.int .i64 err) ∧ Now D p A' w w'

def RefT (f : FuncId) (A A' : AD) (err : Int) (s m : Int) : Prop := ∀ (w : World) (B : Nat → Prop) (cs : Array Value), RefV w B A cs → (∀ b, w.heap.size ≤ b → B b) → Calls Try.prog f #[.agg cs, .int .i64 s, .int .i64 m] w fun e w' => ∃ cs', e = .returned (.tuple #[.agg cs', .int .i64 err]) ∧ RefV w' B A' cs' ∧ Below w.heap.size w w'
def DskT (f : FuncId) (A A' : AD) (err : Int) (s m : Int) : Prop := ∀ (w : World) (D : Nat → Prop) (v : Nat → Value) (p : Nat), DiskIs w p D v A → Calls Try.prog f #[.pointer (some ⟨p, 0, none⟩), .int .i64 s, .int .i64 m] w fun e w' => e = .returned (.int .i64 err) ∧ Now D p A' w w'

def RefZ (f : FuncId) (A A' : AD) (err : Int)  : Prop := ∀ (w : World) (B : Nat → Prop) (cs : Array Value), RefV w B A cs → (∀ b, w.heap.size ≤ b → B b) → Calls Try.prog f #[.agg cs] w fun e w' => ∃ cs', e = .returned (.tuple #[.agg cs', .int .i64 err]) ∧ RefV w' B A' cs' ∧ Below w.heap.size w w'
def DskZ (f : FuncId) (A A' : AD) (err : Int)  : Prop := ∀ (w : World) (D : Nat → Prop) (v : Nat → Value) (p : Nat), DiskIs w p D v A → Calls Try.prog f #[.pointer (some ⟨p, 0, none⟩)] w fun e w' => e = .returned (.int .i64 err) ∧ Now D p A' w w'

def RefF (f : FuncId) (A A' : AD) (s m : Int) : Prop := ∀ (w : World) (B : Nat → Prop) (cs : Array Value), RefV w B A cs → (∀ b, w.heap.size ≤ b → B b) → Calls Try.prog f #[.agg cs, .int .i64 s, .int .i64 m] w fun e w' => ∃ cs', e = .returned (.agg cs') ∧ RefV w' B A' cs' ∧ Below w.heap.size w w'
def DskF (f : FuncId) (A A' : AD) (s m : Int) : Prop := ∀ (w : World) (D : Nat → Prop) (v : Nat → Value) (p : Nat), DiskIs w p D v A → Calls Try.prog f #[.pointer (some ⟨p, 0, none⟩), .int .i64 s, .int .i64 m] w fun e w' => e = .returned (.tuple #[]) ∧ Now D p A' w w'

def RefC (f : FuncId) (A A' : AD) (e0 e1 e2 e3 : Int) : Prop := ∀ (w : World) (B : Nat → Prop) (cs : Array Value), RefV w B A cs → (∀ b, w.heap.size ≤ b → B b) → Calls Try.prog f #[.agg cs, .agg #[.int .i64 e0, .int .i64 e1, .int .i64 e2, .int .i64 e3]] w fun e w' => ∃ cs', e = .returned (.agg cs') ∧ RefV w' B A' cs' ∧ Below w.heap.size w w'
def DskC (f : FuncId) (A A' : AD) (e0 e1 e2 e3 : Int) : Prop := ∀ (w : World) (D : Nat → Prop) (v : Nat → Value) (p : Nat), DiskIs w p D v A → Calls Try.prog f #[.pointer (some ⟨p, 0, none⟩), .agg #[.int .i64 e0, .int .i64 e1, .int .i64 e2, .int .i64 e3]] w fun e w' => e = .returned (.tuple #[]) ∧ Now D p A' w w'

section
variable {w : World} {p : Nat} {D : Nat → Prop} {v : Nat → Value} {A : AD}

theorem Now.ofStep {A' : AD} {D' : Nat → Prop} {v' : Nat → Value} {w' : World} (h : DiskIs w' p D' v' A') (hs : Step D D' w w') : Now D p A' w w' := ⟨D', v', h, hs⟩
end

theorem seg_of {s : Int} (h : ¬ (s < 0 ∨ 2 ≤ s)) : ∃ i : Nat, i < 2 ∧ s = i := ⟨s.toNat, by omega, by omega⟩

/-- The state of a disk that does not change. -/
theorem RefV.later {w w' : World} {B : Nat → Prop} {A : AD} {cs : Array Value} (h : RefV w B A cs) (hb : Below w.heap.size w w') : RefV w' B A cs := by
  obtain ⟨c, P, N, C, bf, n, k, d, x, rfl, hB, hA⟩ := h
  exact ⟨c, P, N, C, bf, n, k, d, x, rfl, hB.later hb, hA⟩

theorem B_append (A : AD) (hok : A.Ok) (s : Int) (bs : List UInt8) : ∃ A' err, RefB 30 A A' err s bs ∧ DskB 21 A A' err s bs := by
  cases hd : A.dead
  rotate_left
  · refine ⟨A, 3, fun w B cs a m q hV _ hu => ?_, fun w D v p a m q hD hu hn => ?_⟩
    · have hV0 := hV
      obtain ⟨c, P, N, C, bf, n, k, d, x, rfl, hB, hA⟩ := hV
      obtain rfl : d = true := hA.dead.trans hd
      exact (ref_append_dead c P N C bf n k w s a m q).mono fun e w' ⟨he, hb⟩ => ⟨_, he, hV0.later hb, hb⟩
    · exact append_dead hD hd s _ ⟨a, m, q, rfl⟩
  by_cases hs : s < 0 ∨ 2 ≤ s
  · refine ⟨A, 2, fun w B cs a m q hV _ hu => ?_, fun w D v p a m q hD hu hn => ?_⟩
    · have hV0 := hV
      obtain ⟨c, P, N, C, bf, n, k, d, x, rfl, hB, hA⟩ := hV
      obtain rfl : d = false := hA.dead.trans hd
      exact (ref_append_out c P N C bf n k w s hs a m q).mono fun e w' ⟨he, hb⟩ => ⟨_, he, hV0.later hb, hb⟩
    · exact append_arg hD hd s hs _ ⟨a, m, q, rfl⟩
  obtain ⟨i, hi, rfl⟩ := seg_of hs
  by_cases hroom : A.cap < ((A.x 0).length : Int) + (A.x 1).length + bs.length
  · refine ⟨A, 5, fun w B cs a m q hV _ hu => ?_, fun w D v p a m q hD hu hn => ?_⟩
    · have hV0 := hV
      obtain ⟨c, P, N, C, bf, n, k, d, x, rfl, hB, hA⟩ := hV
      obtain rfl : d = false := hA.dead.trans hd
      obtain ⟨l1, l2, l3⟩ := hA.lens hok
      obtain ⟨hbl, hmq⟩ := bytes_len hu
      exact (rAppend_full c P N C bf n k w i hi x (fun j hj => (hB j (by omega)).1) l1 l2 a m q (by rw [hA.cap]; omega)).mono fun e w' ⟨he, hb⟩ => ⟨_, he, hV0.later hb, hb⟩
    · exact append_full hD hd i hi _ bs hu hroom
  by_cases hc : A.calls = 0
  · refine ⟨A.killed i bs, 3, fun w B cs a m q hV hfr hu => ?_, fun w D v p a m q hD hu hn => append_kill hD hd hc i hi _ bs hu hn (by omega)⟩
    obtain ⟨c, P, N, C, bf, n, k, d, x, rfl, hB, hA⟩ := hV
    obtain rfl : d = false := hA.dead.trans hd
    obtain ⟨l1, l2, l3⟩ := hA.lens hok
    obtain ⟨hbl, hmq⟩ := bytes_len hu
    obtain ⟨hk, rfl, rfl, hkk⟩ := kills_dead (c := c) (P := P) (N := N) (C := C) hA.fuse hc
    have hm : ((x 0).length + (x 1).length : Nat) + ((x 2).length + (x 3).length : Nat) + (m : Int) ≤ c := by rw [hA.cap]; omega
    have hf : FuseOk (A.killed i bs) true 0 k := .inr ⟨rfl, hc.symm, by show 0 ≤ A.calls; omega, hkk⟩
    by_cases hkm : (m : Int) ≤ k
    · refine (rAppend_ge c P N C true 0 k w i hi 0 hk x (fun j hj => (hB j (by omega)).1) l1 l2 a m q bs hu hbl hmq hm hkm).mono ?_
      rintro e w' ⟨ra, rc, he, h1, h2, hb⟩
      refine ⟨_, he, ⟨c, _, _, _, true, 0, k, true, _, rfl, (hB.later hb).put _ h1 (fun _ b hbb => hfr b (h2 b hbb)), ?_⟩, hb⟩
      refine hA.app (A1 := A.killed i bs) i hi bs rfl ?_ rfl rfl rfl hf rfl
      show upd A.x i (A.x i ++ bs.take (keepN A.part bs.length)) = _
      rw [List.take_of_length_le (by unfold keepN; omega)]
    · obtain ⟨t, rfl⟩ : ∃ t : Nat, k = t := ⟨k.toNat, by omega⟩
      refine (rAppend_lt c P N C true 0 w i hi t 0 hk x (fun j hj => (hB j (by omega)).1) l1 l2 a m q bs hu hbl hmq hm (by omega)).mono ?_
      rintro e w' ⟨ra, rc, he, h1, h2, hb⟩
      refine ⟨_, he, ⟨c, _, _, _, true, 0, t, true, _, rfl, (hB.later hb).put _ h1 (fun _ b hbb => hfr b (h2 b hbb)), ?_⟩, hb⟩
      refine hA.app (A1 := A.killed i bs) i hi (bs.take t) rfl ?_ rfl rfl rfl hf rfl
      show upd A.x i (A.x i ++ bs.take (keepN A.part bs.length)) = _
      rw [show keepN A.part bs.length = t by unfold keepN; omega]
  · refine ⟨{ A.tick with x := upd A.x i (A.x i ++ bs) }, 0, fun w B cs a m q hV hfr hu => ?_, fun w D v p a m q hD hu hn => append_ok hD hd hc i hi _ bs hu hn (by omega)⟩
    obtain ⟨c, P, N, C, bf, n, k, d, x, rfl, hB, hA⟩ := hV
    obtain rfl : d = false := hA.dead.trans hd
    obtain ⟨l1, l2, l3⟩ := hA.lens hok
    obtain ⟨hbl, hmq⟩ := bytes_len hu
    obtain ⟨n', hk, hf⟩ := kills_alive (c := c) (P := P) (N := N) (C := C) hA.fuse hc hok.calls.2
    refine (rAppend_ok c P N C bf n k w i hi n' hk x (fun j hj => (hB j (by omega)).1) l1 l2 a m q bs hu hbl hmq (by rw [hA.cap]; omega)).mono ?_
    rintro e w' ⟨ra, rc, he, h1, h2, hb⟩
    exact ⟨_, he, ⟨c, _, _, _, bf, n', k, false, _, rfl, (hB.later hb).put _ h1 (fun _ b hbb => hfr b (h2 b hbb)), hA.app (A1 := { A.tick with x := upd A.x i (A.x i ++ bs) }) i hi bs rfl rfl rfl rfl rfl hf hd.symm⟩, hb⟩

theorem B_sync (A : AD) (hok : A.Ok) (s : Int) : ∃ A' err, RefS 31 A A' err s ∧ DskS 22 A A' err s := by
  cases hd : A.dead
  rotate_left
  · refine ⟨A, 3, fun w B cs hV _ => ?_, fun w D v p hD => sync_dead hD hd s⟩
    have hV0 := hV
    obtain ⟨c, P, N, C, bf, n, k, d, x, rfl, hB, hA⟩ := hV
    obtain rfl : d = true := hA.dead.trans hd
    exact (ref_sync_dead c P N C bf n k w s).mono fun e w' ⟨he, hb⟩ => ⟨_, he, hV0.later hb, hb⟩
  by_cases hs : s < 0 ∨ 2 ≤ s
  · refine ⟨A, 2, fun w B cs hV _ => ?_, fun w D v p hD => sync_arg hD hd s hs⟩
    have hV0 := hV
    obtain ⟨c, P, N, C, bf, n, k, d, x, rfl, hB, hA⟩ := hV
    obtain rfl : d = false := hA.dead.trans hd
    exact (ref_sync_out c P N C bf n k w s hs).mono fun e w' ⟨he, hb⟩ => ⟨_, he, hV0.later hb, hb⟩
  obtain ⟨i, hi, rfl⟩ := seg_of hs
  by_cases hc : A.calls = 0
  · refine ⟨{ A with dead := true }, 3, fun w B cs hV hfr => ?_, fun w D v p hD => sync_kill hD hd hc i hi⟩
    obtain ⟨c, P, N, C, bf, n, k, d, x, rfl, hB, hA⟩ := hV
    obtain rfl : d = false := hA.dead.trans hd
    obtain ⟨hk, rfl, rfl, hkk⟩ := kills_dead (c := c) (P := P) (N := N) (C := C) hA.fuse hc
    refine (rSync_kill c P N C true 0 k w i hi 0 hk).mono ?_
    rintro e w' ⟨he, hb⟩
    exact ⟨_, he, ⟨c, _, _, _, true, 0, k, true, _, rfl, hB.later hb, hA.same (A1 := { A with dead := true }) rfl rfl rfl rfl rfl (.inr ⟨rfl, hc.symm, by show 0 ≤ A.calls; omega, hkk⟩) rfl⟩, hb⟩
  · refine ⟨A.tick.synced i, 0, fun w B cs hV hfr => ?_, fun w D v p hD => sync_ok hD hd hc i hi⟩
    obtain ⟨c, P, N, C, bf, n, k, d, x, rfl, hB, hA⟩ := hV
    obtain rfl : d = false := hA.dead.trans hd
    obtain ⟨l1, l2, l3⟩ := hA.lens hok
    obtain ⟨n', hk, hf⟩ := kills_alive (c := c) (P := P) (N := N) (C := C) hA.fuse hc hok.calls.2
    refine (rSync_ok c P N C bf n k w i hi n' hk x (fun j hj => (hB j (by omega)).1) l1).mono ?_
    rintro e w' ⟨ra, rc, he, h1, h2, hb⟩
    exact ⟨_, he, ⟨c, _, _, _, bf, n', k, false, _, rfl, ((hB.later hb).put _ h1 (fun _ b hbb => hfr b (h2 b hbb))).nil _, hA.sync (A1 := A.tick.synced i) i hi rfl rfl rfl rfl rfl hf hd.symm⟩, hb⟩

theorem B_truncate (A : AD) (hok : A.Ok) (s m : Int) : ∃ A' err, RefT 32 A A' err s m ∧ DskT 25 A A' err s m := by
  cases hd : A.dead
  rotate_left
  · refine ⟨A, 3, fun w B cs hV _ => ?_, fun w D v p hD => truncate_dead hD hd s m⟩
    have hV0 := hV
    obtain ⟨c, P, N, C, bf, n, k, d, x, rfl, hB, hA⟩ := hV
    obtain rfl : d = true := hA.dead.trans hd
    exact (ref_truncate_dead c P N C bf n k w s m).mono fun e w' ⟨he, hb⟩ => ⟨_, he, hV0.later hb, hb⟩
  by_cases hs : (s < 0 ∨ 2 ≤ s) ∨ m < 0
  · refine ⟨A, 2, fun w B cs hV _ => ?_, fun w D v p hD => truncate_arg hD hd s m ?_⟩
    · have hV0 := hV
      obtain ⟨c, P, N, C, bf, n, k, d, x, rfl, hB, hA⟩ := hV
      obtain rfl : d = false := hA.dead.trans hd
      exact (rTrunc_out c P N C bf n k w s m hs).mono fun e w' ⟨he, hb⟩ => ⟨_, he, hV0.later hb, hb⟩
    · by_cases h2 : s < 0 ∨ 2 ≤ s
      · exact .inl h2
      · obtain ⟨i, hi, rfl⟩ := seg_of h2
        exact .inr ⟨i, hi, rfl, .inl (by omega)⟩
  obtain ⟨i, hi, rfl⟩ := seg_of (fun h => hs (.inl h))
  obtain ⟨m, rfl⟩ : ∃ t : Nat, m = t := ⟨m.toNat, by omega⟩
  by_cases hlong : (A.x i).length < m
  · refine ⟨A, 2, fun w B cs hV _ => ?_, fun w D v p hD => truncate_arg hD hd i m (.inr ⟨i, hi, rfl, .inr (by omega)⟩)⟩
    have hV0 := hV
    obtain ⟨c, P, N, C, bf, n, k, d, x, rfl, hB, hA⟩ := hV
    obtain rfl : d = false := hA.dead.trans hd
    obtain ⟨l1, l2, l3⟩ := hA.lens hok
    exact (rTrunc_long c P N C bf n k w i hi x (fun j hj => (hB j (by omega)).1) l1 m (by rw [hA.segLen i hi]; omega)).mono fun e w' ⟨he, hb⟩ => ⟨_, he, hV0.later hb, hb⟩
  by_cases hc : A.calls = 0
  · refine ⟨{ A with dead := true }, 3, fun w B cs hV hfr => ?_, fun w D v p hD => truncate_kill hD hd hc i hi m (by omega)⟩
    obtain ⟨c, P, N, C, bf, n, k, d, x, rfl, hB, hA⟩ := hV
    obtain rfl : d = false := hA.dead.trans hd
    obtain ⟨l1, l2, l3⟩ := hA.lens hok
    obtain ⟨hk, rfl, rfl, hkk⟩ := kills_dead (c := c) (P := P) (N := N) (C := C) hA.fuse hc
    refine (rTrunc_kill c P N C true 0 k w i hi 0 hk x (fun j hj => (hB j (by omega)).1) l1 m (by rw [hA.segLen i hi]; omega)).mono ?_
    rintro e w' ⟨he, hb⟩
    exact ⟨_, he, ⟨c, _, _, _, true, 0, k, true, _, rfl, hB.later hb, hA.same (A1 := { A with dead := true }) rfl rfl rfl rfl rfl (.inr ⟨rfl, hc.symm, by show 0 ≤ A.calls; omega, hkk⟩) rfl⟩, hb⟩
  · refine ⟨A.tick.cut i m, 0, fun w B cs hV hfr => ?_, fun w D v p hD => truncate_ok hD hd hc i hi m (by omega)⟩
    obtain ⟨c, P, N, C, bf, n, k, d, x, rfl, hB, hA⟩ := hV
    obtain rfl : d = false := hA.dead.trans hd
    obtain ⟨l1, l2, l3⟩ := hA.lens hok
    obtain ⟨n', hk, hf⟩ := kills_alive (c := c) (P := P) (N := N) (C := C) hA.fuse hc hok.calls.2
    refine (rTrunc_ok c P N C bf n k w i hi n' hk x (fun j hj => (hB j (by omega)).1) l1 m (by rw [hA.segLen i hi]; omega) (min (N (2 * i)) m) (m - min (N (2 * i)) m) rfl (by omega)).mono ?_
    rintro e w' ⟨ra, rb, rd, he, h1, h2, h3, h4, hb⟩
    exact ⟨_, he, ⟨c, _, _, _, bf, n', k, false, _, rfl, ((hB.later hb).put _ h1 (fun _ b hbb => hfr b (h3 b hbb))).put _ h2 (fun _ b hbb => hfr b (h4 b hbb)), hA.cut (A1 := A.tick.cut i m) i hi m (min (N (2 * i)) m) (by omega) (by rw [hB.len _ (by omega)]) rfl rfl rfl rfl rfl hf hd.symm⟩, hb⟩

theorem B_write (A : AD) (hok : A.Ok) (s : Int) (bs : List UInt8) : ∃ A' err, RefB 33 A A' err s bs ∧ DskB 28 A A' err s bs := by
  cases hd : A.dead
  rotate_left
  · refine ⟨A, 3, fun w B cs a m q hV _ hu => ?_, fun w D v p a m q hD hu hn => write_dead hD hd s a m q⟩
    have hV0 := hV
    obtain ⟨c, P, N, C, bf, n, k, d, x, rfl, hB, hA⟩ := hV
    obtain rfl : d = true := hA.dead.trans hd
    exact (ref_write_dead c P N C bf n k w s a m q).mono fun e w' ⟨he, hb⟩ => ⟨_, he, hV0.later hb, hb⟩
  by_cases hs : s < 0 ∨ 2 ≤ s
  · refine ⟨A, 2, fun w B cs a m q hV _ hu => ?_, fun w D v p a m q hD hu hn => write_arg hD hd s a m q (.inl hs)⟩
    have hV0 := hV
    obtain ⟨c, P, N, C, bf, n, k, d, x, rfl, hB, hA⟩ := hV
    obtain rfl : d = false := hA.dead.trans hd
    exact (ref_write_out c P N C bf n k w s a m q hs).mono fun e w' ⟨he, hb⟩ => ⟨_, he, hV0.later hb, hb⟩
  obtain ⟨i, hi, rfl⟩ := seg_of hs
  by_cases h32 : bs.length = 32
  rotate_left
  · refine ⟨A, 2, fun w B cs a m q hV _ hu => ?_, fun w D v p a m q hD hu hn => ?_⟩
    · have hV0 := hV
      obtain ⟨c, P, N, C, bf, n, k, d, x, rfl, hB, hA⟩ := hV
      obtain rfl : d = false := hA.dead.trans hd
      obtain ⟨hbl, hmq⟩ := bytes_len hu
      exact (ref_write_len c P N C bf n k w i a m q (by omega) (by omega) (by omega)).mono fun e w' ⟨he, hb⟩ => ⟨_, he, hV0.later hb, hb⟩
    · obtain ⟨hbl, hmq⟩ := bytes_len hu
      exact write_arg hD hd i a m q (.inr ⟨by omega, by omega, by omega⟩)
  by_cases hc : A.calls = 0
  · refine ⟨{ A with dead := true }, 3, fun w B cs a m q hV hfr hu => ?_, fun w D v p a m q hD hu hn => ?_⟩
    · obtain ⟨hbl, hmq⟩ := bytes_len hu
      obtain rfl : m = 32 := by omega
      obtain ⟨c, P, N, C, bf, n, k, d, x, rfl, hB, hA⟩ := hV
      obtain rfl : d = false := hA.dead.trans hd
      obtain ⟨hk, rfl, rfl, hkk⟩ := kills_dead (c := c) (P := P) (N := N) (C := C) hA.fuse hc
      refine (rWrite_kill c P N C true 0 k w i hi a q 0 hk).mono ?_
      rintro e w' ⟨he, hb⟩
      exact ⟨_, he, ⟨c, _, _, _, true, 0, k, true, _, rfl, hB.later hb, hA.same (A1 := { A with dead := true }) rfl rfl rfl rfl rfl (.inr ⟨rfl, hc.symm, by show 0 ≤ A.calls; omega, hkk⟩) rfl⟩, hb⟩
    · obtain ⟨hbl, hmq⟩ := bytes_len hu
      obtain rfl : m = 32 := by omega
      exact write_kill hD hd hc i hi a q
  · refine ⟨A.tick.wrote i bs, 0, fun w B cs a m q hV hfr hu => ?_, fun w D v p a m q hD hu hn => ?_⟩
    · obtain ⟨hbl, hmq⟩ := bytes_len hu
      obtain rfl : m = 32 := by omega
      obtain ⟨c, P, N, C, bf, n, k, d, x, rfl, hB, hA⟩ := hV
      obtain rfl : d = false := hA.dead.trans hd
      obtain ⟨n', hk, hf⟩ := kills_alive (c := c) (P := P) (N := N) (C := C) hA.fuse hc hok.calls.2
      refine (rWrite_ok c P N C bf n k w i hi n' hk a q bs hu h32).mono ?_
      rintro e w' ⟨ra, rc, he, h1, h2, hb⟩
      exact ⟨_, he, ⟨c, _, _, _, bf, n', k, false, _, rfl, (hB.later hb).put _ h1 (fun _ b hbb => hfr b (h2 b hbb)), hA.write (A1 := A.tick.wrote i bs) i hi bs h32 rfl rfl rfl rfl rfl hf hd.symm⟩, hb⟩
    · obtain ⟨hbl, hmq⟩ := bytes_len hu
      obtain rfl : m = 32 := by omega
      exact write_ok hD hd hc i hi a q bs hu hn h32

theorem B_syncHead (A : AD) (hok : A.Ok) : ∃ A' err, RefZ 34 A A' err ∧ DskZ 27 A A' err := by
  cases hd : A.dead
  rotate_left
  · refine ⟨A, 3, fun w B cs hV _ => ?_, fun w D v p hD => syncHead_dead hD hd⟩
    have hV0 := hV
    obtain ⟨c, P, N, C, bf, n, k, d, x, rfl, hB, hA⟩ := hV
    obtain rfl : d = true := hA.dead.trans hd
    exact (ref_syncHead_dead c P N C bf n k w).mono fun e w' ⟨he, hb⟩ => ⟨_, he, hV0.later hb, hb⟩
  by_cases hc : A.calls = 0
  · refine ⟨{ A with dead := true }, 3, fun w B cs hV hfr => ?_, fun w D v p hD => syncHead_kill hD hd hc⟩
    obtain ⟨c, P, N, C, bf, n, k, d, x, rfl, hB, hA⟩ := hV
    obtain rfl : d = false := hA.dead.trans hd
    obtain ⟨hk, rfl, rfl, hkk⟩ := kills_dead (c := c) (P := P) (N := N) (C := C) hA.fuse hc
    refine (ref_syncHead_kill c P N C true 0 k w 0 hk).mono ?_
    rintro e w' ⟨he, hb⟩
    exact ⟨_, he, ⟨c, _, _, _, true, 0, k, true, _, rfl, hB.later hb, hA.same (A1 := { A with dead := true }) rfl rfl rfl rfl rfl (.inr ⟨rfl, hc.symm, by show 0 ≤ A.calls; omega, hkk⟩) rfl⟩, hb⟩
  · refine ⟨A.tick.syncedHead, 0, fun w B cs hV hfr => ?_, fun w D v p hD => syncHead_ok hD hd hc⟩
    obtain ⟨c, P, N, C, bf, n, k, d, x, rfl, hB, hA⟩ := hV
    obtain rfl : d = false := hA.dead.trans hd
    obtain ⟨n', hk, hf⟩ := kills_alive (c := c) (P := P) (N := N) (C := C) hA.fuse hc hok.calls.2
    obtain ⟨i0, hh0, hl0, hx0⟩ := head_of hA hok (fun j hj => hB.len j hj) 0 (by omega)
    obtain ⟨i1, hh1, hl1, hx1⟩ := head_of hA hok (fun j hj => hB.len j hj) 1 (by omega)
    refine (ref_syncHead_ok c P N C bf n k w n' hk i0 i1 hh0 hh1).mono ?_
    rintro e w' ⟨he, hb⟩
    have hB' := hB.later hb
    have g0 := hB' i0 hl0
    have g1 := hB' i1 hl1
    have hB2 := (((hB'.put 4 g0.1 g0.2).nil 5).put 6 g1.1 g1.2).nil 7
    rw [hx0, hx1] at hB2
    exact ⟨_, he, ⟨c, _, _, _, bf, n', k, false, _, rfl, hB2, hA.syncHead (A1 := A.tick.syncedHead) rfl rfl rfl rfl rfl hf hd.symm⟩, hb⟩

theorem B_fuse (A : AD) (s m : Int) (hs : s ≤ 9223372036854775807) : ∃ A', RefF 35 A A' s m ∧ DskF 26 A A' s m := by
  cases hd : A.dead
  rotate_left
  · refine ⟨A, fun w B cs hV _ => ?_, fun w D v p hD => (fuse_dead hD hd s m).mono fun e w' ⟨he, hw⟩ => ⟨he, by subst hw; exact Now.start hD⟩⟩
    have hV0 := hV
    obtain ⟨c, P, N, C, bf, n, k, d, x, rfl, hB, hA⟩ := hV
    obtain rfl : d = true := hA.dead.trans hd
    exact (ref_fuse_dead c P N C bf n k w s m).mono fun e w' ⟨he, hb⟩ => ⟨_, he, hV0.later hb, hb⟩
  · refine ⟨A.fused s m, fun w B cs hV _ => ?_, fun w D v p hD => (fuse_alive hD hd s m hs).mono fun e w' ⟨he, h1, h2⟩ => ⟨he, D, v, h1, h2⟩⟩
    obtain ⟨c, P, N, C, bf, n, k, d, x, rfl, hB, hA⟩ := hV
    obtain rfl : d = false := hA.dead.trans hd
    refine (ref_fuse c P N C bf n k w s m).mono fun e w' ⟨he, hb⟩ => ⟨_, he, ⟨c, _, _, _, _, _, _, false, _, rfl, hB.later hb, hA.same (A1 := A.fused s m) rfl rfl rfl rfl rfl ?_ hd.symm⟩, hb⟩
    show (_ ∧ max s (-1) = -1) ∨ (_ ∧ s = max s (-1) ∧ 0 ≤ max s (-1) ∧ max m 0 = max m 0)
    by_cases h : 0 ≤ s
    · exact .inr ⟨decide_eq_true h, by omega, by omega, rfl⟩
    · exact .inl ⟨decide_eq_false h, by omega⟩

theorem B_crash (A : AD) (hok : A.Ok) (e0 e1 e2 e3 : Int) : ∃ A', RefC 36 A A' e0 e1 e2 e3 ∧ DskC 23 A A' e0 e1 e2 e3 := by
  refine ⟨A.crashed (kp e0 e1 e2 e3), fun w B cs hV hfr => ?_, fun w D v p hD => crash4 hD e0 e1 e2 e3⟩
  obtain ⟨c, P, N, C, bf, n, k, d, x, rfl, hB, hA⟩ := hV
  obtain ⟨l1, l2, l3⟩ := hA.lens hok
  have hN := fun j hj => hB.len j hj
  have s0 : (x 4).length = 32 := by rw [show x 4 = A.sf 0 from hA.sf 0 (by omega)]; exact hok.sf 0 (by omega)
  have s1 : (x 6).length = 32 := by rw [show x 6 = A.sf 1 from hA.sf 1 (by omega)]; exact hok.sf 1 (by omega)
  have s2 : (x 5).length ≤ 32 := by rcases hA.sh 0 (by omega) with ⟨h, _⟩ | ⟨h, _⟩ <;> simp at h <;> simp [h]
  have s3 : (x 7).length ≤ 32 := by rcases hA.sh 1 (by omega) with ⟨h, _⟩ | ⟨h, _⟩ <;> simp at h <;> simp [h]
  refine (ref_crash c P N C bf n k d w x (fun j hj => (hB j hj).1) (fun j hj => ?_) (by rw [← hN 5 (by omega), ← hN 4 (by omega)]; omega) (by rw [← hN 7 (by omega), ← hN 6 (by omega)]; omega) e0 e1 e2 e3).mono ?_
  · rcases (show j = 0 ∨ j = 1 ∨ j = 2 ∨ j = 3 ∨ j = 4 ∨ j = 5 ∨ j = 6 ∨ j = 7 by omega) with rfl | rfl | rfl | rfl | rfl | rfl | rfl | rfl <;> omega
  rintro e w' ⟨a0, n0, c0, a4, n4, c4, a2, n2, c2, a6, n6, c6, he, b0, b2, b4, b6, o0, o2, o4, o6, hb⟩
  rw [← hN 1 (by omega)] at b0
  rw [← hN 3 (by omega)] at b2
  rw [← hN 5 (by omega)] at b4
  rw [← hN 7 (by omega)] at b6
  exact ⟨_, he, ⟨c, _, _, _, false, n, k, false, _, rfl, (((((((((hB.later hb).put 0 b0 (fun _ b h => hfr b (o0 b h))).nil 1).put 4 b4 (fun _ b h => hfr b (o4 b h))).nil 5).put 2 b2 (fun _ b h => hfr b (o2 b h))).nil 3).put 6 b6 (fun _ b h => hfr b (o6 b h))).nil 7), hA.crash e0 e1 e2 e3 _ rfl⟩, hb⟩
end Go.Proofs.Ytbpjlkjokafdnaa
