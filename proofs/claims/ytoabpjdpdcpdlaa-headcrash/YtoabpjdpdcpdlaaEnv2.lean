/- More contracts of package disk over 'Now': errors, kills, dead disks. No statement of the seat is proved here. -/
import Derived.Test.YtoabpjdpdcpdlaaEnv
namespace Go.Proofs.Ytoabpjdpdcpdlaa
open Go.RowKit

section
variable {w0 w : World} {p : Nat} {D : Nat → Prop} {A : AD}










theorem nSyncHead_dead (h : Now D p A w0 w) (hd : A.dead = true) : Calls Try.prog 32 #[.pointer (some ⟨p, 0, none⟩)] w fun e w' => e = .returned (.int .i64 3) ∧ Now D p A w0 w' := by
  obtain ⟨D', v', h1, h2⟩ := h
  exact (syncHead_dead h1 hd).mono fun _ _ ⟨he, hN⟩ => ⟨he, Now.trans h2 hN⟩
theorem nWrite_dead (h : Now D p A w0 w) (hd : A.dead = true) (s : Int) (a : Option Addr) (n c : Nat) : Calls Try.prog 31 #[.pointer (some ⟨p, 0, none⟩), .int .i64 s, .slice a n c] w fun e w' => e = .returned (.int .i64 3) ∧ Now D p A w0 w' := by
  obtain ⟨D', v', h1, h2⟩ := h
  exact (write_dead h1 hd s a n c).mono fun _ _ ⟨he, hN⟩ => ⟨he, Now.trans h2 hN⟩

theorem nFree_dead (h : Now D p A w0 w) (hd : A.dead = true) : Calls Try.prog 50 #[.pointer (some ⟨p, 0, none⟩)] w fun e w' => e = .returned (.int .i64 0) ∧ w' = w := by
  obtain ⟨D', v', h1, h2⟩ := h
  exact free_dead h1 hd
theorem nFuse (h : Now D p A w0 w) (hd : A.dead = false) (c k : Int) (hc : c ≤ 9223372036854775807) : Calls Try.prog 25 #[.pointer (some ⟨p, 0, none⟩), .int .i64 c, .int .i64 k] w fun e w' => e = .returned (.tuple #[]) ∧ Now D p (A.fused c k) w0 w' := by
  obtain ⟨D', v', h1, h2⟩ := h
  exact (fuse_alive h1 hd c k hc).mono fun _ _ ⟨he, hD, hS⟩ => ⟨he, D', v', hD, h2.trans hS⟩
theorem nFuse_dead (h : Now D p A w0 w) (hd : A.dead = true) (c k : Int) : Calls Try.prog 25 #[.pointer (some ⟨p, 0, none⟩), .int .i64 c, .int .i64 k] w fun e w' => e = .returned (.tuple #[]) ∧ w' = w := by
  obtain ⟨D', v', h1, h2⟩ := h
  exact fuse_dead h1 hd c k
end
end Go.Proofs.Ytoabpjdpdcpdlaa
