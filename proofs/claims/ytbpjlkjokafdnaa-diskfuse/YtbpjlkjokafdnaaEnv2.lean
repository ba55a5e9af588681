/- More contracts of package disk over 'Now': errors, kills, dead disks. No statement of the seat is proved here. -/
import Derived.Test.YtbpjlkjokafdnaaEnv
namespace Go.Proofs.Ytbpjlkjokafdnaa
open Go.RowKit

section
variable {w0 w : World} {p : Nat} {D : Nat → Prop} {A : AD}

theorem nAppend_arg (h : Now D p A w0 w) (hd : A.dead = false) (s : Int) (hs : s < 0 ∨ 2 ≤ s) (a : Option Addr) (n c : Nat) : Calls Try.prog 21 #[.pointer (some ⟨p, 0, none⟩), .int .i64 s, .slice a n c] w fun e w' => e = .returned (.int .i64 2) ∧ Now D p A w0 w' := by
  obtain ⟨D', v', h1, h2⟩ := h
  exact (append_arg h1 hd s hs _ ⟨a, n, c, rfl⟩).mono fun _ _ ⟨he, hN⟩ => ⟨he, Now.trans h2 hN⟩
theorem nAppend_dead (h : Now D p A w0 w) (hd : A.dead = true) (s : Int) (a : Option Addr) (n c : Nat) : Calls Try.prog 21 #[.pointer (some ⟨p, 0, none⟩), .int .i64 s, .slice a n c] w fun e w' => e = .returned (.int .i64 3) ∧ Now D p A w0 w' := by
  obtain ⟨D', v', h1, h2⟩ := h
  exact (append_dead h1 hd s _ ⟨a, n, c, rfl⟩).mono fun _ _ ⟨he, hN⟩ => ⟨he, Now.trans h2 hN⟩
/-- The bytes lie in w itself. -/
theorem nAppend_full (h : Now D p A w0 w) (hd : A.dead = false) (i : Nat) (hi : i < 2) (u : Value) (bs : List UInt8) (hu : Bytes w u bs) (hroom : A.cap < ((A.x 0).length : Int) + (A.x 1).length + bs.length) :
    Calls Try.prog 21 #[.pointer (some ⟨p, 0, none⟩), .int .i64 i, u] w fun e w' => e = .returned (.int .i64 5) ∧ Now D p A w0 w' := by
  obtain ⟨D', v', h1, h2⟩ := h
  exact (append_full h1 hd i hi u bs hu hroom).mono fun _ _ ⟨he, hN⟩ => ⟨he, Now.trans h2 hN⟩
theorem nAppend_full0 (h : Now D p A w0 w) (hd : A.dead = false) (u : Value) (bs : List UInt8) (hu : Bytes w u bs) (hroom : A.cap < ((A.x 0).length : Int) + (A.x 1).length + bs.length) :
    Calls Try.prog 21 #[.pointer (some ⟨p, 0, none⟩), .int .i64 0, u] w fun e w' => e = .returned (.int .i64 5) ∧ Now D p A w0 w' := nAppend_full h hd 0 (by omega) u bs hu hroom
/-- Bytes in new memory are appended: w is w1 with one block more. -/
theorem nAppend_lit {w1 : World} {o : Obj} (h : Now D p A w0 w1) (hd : A.dead = false) (hc : A.calls ≠ 0) (i : Nat) (hi : i < 2) (n c : Nat) (bs : List UInt8) (hu : Bytes (w1.alloc o) (.slice (some ⟨w1.heap.size, 0, none⟩) n c) bs) (hroom : ((A.x 0).length : Int) + (A.x 1).length + bs.length ≤ A.cap) :
    Calls Try.prog 21 #[.pointer (some ⟨p, 0, none⟩), .int .i64 i, .slice (some ⟨w1.heap.size, 0, none⟩) n c] (w1.alloc o) fun e w' => e = .returned (.int .i64 0) ∧ Now D p { A.tick with x := upd A.x i (A.x i ++ bs) } w0 w' := by
  obtain ⟨D', v', h1, h2⟩ := h
  exact (append_ok (h1.alloc o) hd hc i hi _ bs hu (lit_not h1 _ _) hroom).mono fun _ _ ⟨he, hN⟩ => ⟨he, Now.trans (h2.alloc o) hN⟩
theorem nAppend_lit1 {w1 : World} {o : Obj} (h : Now D p A w0 w1) (hd : A.dead = false) (hc : A.calls ≠ 0) (n c : Nat) (bs : List UInt8) (hu : Bytes (w1.alloc o) (.slice (some ⟨w1.heap.size, 0, none⟩) n c) bs) (hroom : ((A.x 0).length : Int) + (A.x 1).length + bs.length ≤ A.cap) :
    Calls Try.prog 21 #[.pointer (some ⟨p, 0, none⟩), .int .i64 1, .slice (some ⟨w1.heap.size, 0, none⟩) n c] (w1.alloc o) fun e w' => e = .returned (.int .i64 0) ∧ Now D p { A.tick with x := upd A.x 1 (A.x 1 ++ bs) } w0 w' := nAppend_lit h hd hc 1 (by omega) n c bs hu hroom
theorem nAppend_kill0 (h : Now D p A w0 w) (hd : A.dead = false) (hc : A.calls = 0) (u : Value) (bs : List UInt8) (hu : Bytes w0 u bs) (hn : Off D w0 u bs) (hroom : ((A.x 0).length : Int) + (A.x 1).length + bs.length ≤ A.cap) :
    Calls Try.prog 21 #[.pointer (some ⟨p, 0, none⟩), .int .i64 0, u] w fun e w' => e = .returned (.int .i64 3) ∧ Now D p (A.killed 0 bs) w0 w' := by
  obtain ⟨D', v', h1, h2⟩ := h
  exact (append_kill h1 hd hc 0 (by omega) u bs (h2.bytes hu hn.not) (hn.later h2) hroom).mono fun _ _ ⟨he, hN⟩ => ⟨he, Now.trans h2 hN⟩
theorem nSync_kill0 (h : Now D p A w0 w) (hd : A.dead = false) (hc : A.calls = 0) : Calls Try.prog 22 #[.pointer (some ⟨p, 0, none⟩), .int .i64 0] w fun e w' => e = .returned (.int .i64 3) ∧ Now D p { A with dead := true } w0 w' := by
  obtain ⟨D', v', h1, h2⟩ := h
  exact (sync_kill h1 hd hc 0 (by omega)).mono fun _ _ ⟨he, hN⟩ => ⟨he, Now.trans h2 hN⟩
theorem nSync_dead (h : Now D p A w0 w) (hd : A.dead = true) (s : Int) : Calls Try.prog 22 #[.pointer (some ⟨p, 0, none⟩), .int .i64 s] w fun e w' => e = .returned (.int .i64 3) ∧ Now D p A w0 w' := by
  obtain ⟨D', v', h1, h2⟩ := h
  exact (sync_dead h1 hd s).mono fun _ _ ⟨he, hN⟩ => ⟨he, Now.trans h2 hN⟩
theorem nSyncHead_dead (h : Now D p A w0 w) (hd : A.dead = true) : Calls Try.prog 27 #[.pointer (some ⟨p, 0, none⟩)] w fun e w' => e = .returned (.int .i64 3) ∧ Now D p A w0 w' := by
  obtain ⟨D', v', h1, h2⟩ := h
  exact (syncHead_dead h1 hd).mono fun _ _ ⟨he, hN⟩ => ⟨he, Now.trans h2 hN⟩
theorem nWrite_dead (h : Now D p A w0 w) (hd : A.dead = true) (s : Int) (a : Option Addr) (n c : Nat) : Calls Try.prog 28 #[.pointer (some ⟨p, 0, none⟩), .int .i64 s, .slice a n c] w fun e w' => e = .returned (.int .i64 3) ∧ Now D p A w0 w' := by
  obtain ⟨D', v', h1, h2⟩ := h
  exact (write_dead h1 hd s a n c).mono fun _ _ ⟨he, hN⟩ => ⟨he, Now.trans h2 hN⟩
theorem nTruncate_dead (h : Now D p A w0 w) (hd : A.dead = true) (s n : Int) : Calls Try.prog 25 #[.pointer (some ⟨p, 0, none⟩), .int .i64 s, .int .i64 n] w fun e w' => e = .returned (.int .i64 3) ∧ Now D p A w0 w' := by
  obtain ⟨D', v', h1, h2⟩ := h
  exact (truncate_dead h1 hd s n).mono fun _ _ ⟨he, hN⟩ => ⟨he, Now.trans h2 hN⟩
theorem nFree_dead (h : Now D p A w0 w) (hd : A.dead = true) : Calls Try.prog 13 #[.pointer (some ⟨p, 0, none⟩)] w fun e w' => e = .returned (.int .i64 0) ∧ w' = w := by
  obtain ⟨D', v', h1, h2⟩ := h
  exact free_dead h1 hd
theorem nFuse (h : Now D p A w0 w) (hd : A.dead = false) (c k : Int) (hc : c ≤ 9223372036854775807) : Calls Try.prog 26 #[.pointer (some ⟨p, 0, none⟩), .int .i64 c, .int .i64 k] w fun e w' => e = .returned (.tuple #[]) ∧ Now D p (A.fused c k) w0 w' := by
  obtain ⟨D', v', h1, h2⟩ := h
  exact (fuse_alive h1 hd c k hc).mono fun _ _ ⟨he, hD, hS⟩ => ⟨he, D', v', hD, h2.trans hS⟩
theorem nFuse_dead (h : Now D p A w0 w) (hd : A.dead = true) (c k : Int) : Calls Try.prog 26 #[.pointer (some ⟨p, 0, none⟩), .int .i64 c, .int .i64 k] w fun e w' => e = .returned (.tuple #[]) ∧ w' = w := by
  obtain ⟨D', v', h1, h2⟩ := h
  exact fuse_dead h1 hd c k
end
end Go.Proofs.Ytbpjlkjokafdnaa
