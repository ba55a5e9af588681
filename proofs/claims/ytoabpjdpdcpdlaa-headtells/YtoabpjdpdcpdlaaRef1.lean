/- What the document's own disk (foremanref01) is in memory, and what its small functions do. No statement of the seat is proved here. -/
import Derived.Test.YtoabpjdpdcpdlaaEnv
namespace Go.Proofs.Ytoabpjdpdcpdlaa
open Go.RowKit

/-- What the document's disk holds: of segment i x (2 i) safe and x (2 i + 1) loose, of slot i x (4 + 2 i) safe and x (5 + 2 i) loose; a fuse (h) of n calls, k bytes. -/
structure RD where
  c : Int
  x : Nat → List UInt8
  h : Bool
  n : Int
  k : Int
  d : Bool

/-- The cells of such a value. -/
def rl (c : Int) (P : Nat → Option Addr) (N C : Nat → Nat) (h : Bool) (n k : Int) (d : Bool) : Array Value :=
  #[.int .i64 c, .slice (P 0) (N 0) (C 0), .slice (P 1) (N 1) (C 1), .slice (P 2) (N 2) (C 2), .slice (P 3) (N 3) (C 3), .slice (P 4) (N 4) (C 4), .slice (P 5) (N 5) (C 5), .slice (P 6) (N 6) (C 6), .slice (P 7) (N 7) (C 7), .bool h, .int .i64 n, .int .i64 k, .bool d]
def rcs (P : Nat → Option Addr) (C : Nat → Nat) (R : RD) : Array Value := rl R.c P (fun j => (R.x j).length) C R.h R.n R.k R.d

/-- Its slices read as its bytes, in blocks of B. -/
def RB (w : World) (B : Nat → Prop) (P : Nat → Option Addr) (C : Nat → Nat) (x : Nat → List UInt8) : Prop :=
  ∀ j, j < 8 → Bytes w (.slice (P j) (x j).length (C j)) (x j) ∧ (x j ≠ [] → ∀ k, (Value.slice (P j) (x j).length (C j)).ownBlock = some k → B k) ∧ (x j).length ≤ 2097152

theorem RB.later {w w' : World} {B : Nat → Prop} {P : Nat → Option Addr} {C : Nat → Nat} {x : Nat → List UInt8} (h : RB w B P C x) (hb : Below w.heap.size w w') : RB w' B P C x :=
  fun j hj => ⟨(h j hj).1.kept fun k _ hk => hb.block k hk, (h j hj).2⟩

/-- One slice is another one. -/
theorem RB.put {w : World} {B : Nat → Prop} {P : Nat → Option Addr} {C : Nat → Nat} {x : Nat → List UInt8} (h : RB w B P C x) (i : Nat) {a : Option Addr} {c : Nat} {bs : List UInt8} (hb : Bytes w (.slice a bs.length c) bs) (hk : bs ≠ [] → ∀ k, (Value.slice a bs.length c).ownBlock = some k → B k) (hl : bs.length ≤ 2097152) :
    RB w B (upd P i a) (upd C i c) (upd x i bs) := fun j hj => by
  by_cases e : j = i
  · subst e; rw [upd_same, upd_same, upd_same]; exact ⟨hb, hk, hl⟩
  · rw [upd_other _ _ e, upd_other _ _ e, upd_other _ _ e]; exact h j hj

set_option maxHeartbeats 1000000 in
theorem join_any (u1 u2 : Value) (b1 b2 : List UInt8) (w : World) (h1 : Bytes w u1 b1) (h2 : Bytes w u2 b2) (hl : b1.length + b2.length ≤ 140737488355328) : Calls Try.prog 46 #[u1, u2] w fun e w' => ∃ r, e = .returned r ∧ Fresh w w' r (b1 ++ b2) := by
  obtain ⟨ti, hi, hz0, hz1, hz2⟩ := infoByte
  have HO : Hid ((w.alloc (.cells #[] 5)).ownsRow 0 5 1 (.slice (some ⟨w.heap.size, 0, none⟩) 0 0) ([] : List UInt8).length (([] : List UInt8).map bv)) :=
    ⟨by simp, .inr ⟨w.heap.size, 0, #[], rfl, Nat.zero_le _, heap_alloc_new w _, Nat.le_refl _, by decide, rfl, by simp⟩⟩
  have HU := hide (h1.alloc (.cells #[] 5))
  have HX2 := hide h2
  have HL := hide hl
  clear h1 h2 hl
  go_enter Try.func46, Try.ntmps46
  go_wp2_with (at_builtin; refine wpList_append_bytes _ rfl _ _ 25 rfl 5 ti (.int .u8 0) Try.underlying25 hi hz0 hz1 hz2 rfl _ [] rfl (unhide HO) _ b1 rfl (unhide HU) (by have := unhide HL; simp; omega) ?_)
  rintro u5 w5 r1 r2 r3
  have hb5 : Below w.heap.size w w5 := ((Below.refl _ _).alloc (Nat.le_refl _) _).grown r2 (by simp) (fun k hk => by simp [Value.ownBlock] at hk; omega)
  have hu5 : ∀ k, u5.ownBlock = some k → w.heap.size ≤ k := fun k hk => by
    rcases r3 with r3 | ⟨k', r3, hle⟩
    · rw [r3] at hk; simp [Value.ownBlock] at hk; omega
    · rw [r3] at hk; cases hk; first | omega | (simp at hle; omega)
  have HO5 := hide r1
  have HU5 : Hid (Bytes w5 u2 b2) := (unhide HX2).kept fun k hk hl => hb5.block k hl
  have HB5 := hide hb5
  have HV5 := hide hu5
  clear r1 r2 r3 HO HU HX2 hb5 hu5
  go_wp2_with (at_builtin; refine wpList_append_bytes _ rfl _ _ 25 rfl 5 ti (.int .u8 0) Try.underlying25 hi hz0 hz1 hz2 rfl _ b1 rfl (unhide HO5) _ b2 rfl (unhide HU5) (unhide HL) ?_)
  rintro u6 w6 r1 r2 r3
  have hb6 : Below w.heap.size w w6 := (unhide HB5).grown r2 (unhide HB5).size (fun k hk => unhide HV5 k hk)
  have hu6 : ∀ k, u6.ownBlock = some k → w.heap.size ≤ k ∧ k < w6.heap.size := fun k hk => by
    refine ⟨?_, (r1.lt k hk).2⟩
    rcases r3 with r3 | ⟨k', r3, hle⟩
    · rw [r3] at hk; exact unhide HV5 k hk
    · rw [r3] at hk; cases hk; have := (unhide HB5).size; omega
  rw [← List.length_append, ← List.map_append] at r1
  go_wp2
  go_ret
  exact ⟨u6, rfl, bytes_of_owns r1, hu6, hb6⟩

set_option maxHeartbeats 1000000 in
theorem some_any (a : Option Addr) (n c : Nat) (m : Int) (w : World) (hc : n ≤ c) : Calls Try.prog 47 #[.slice a n c, .int .i64 m] w fun e w' => e = .returned (.slice a (keepN m n) c) ∧ w' = w := by
  have hc' : (n : Int) ≤ (c : Int) := by omega
  by_cases h0 : m < 0
  · have e : keepN m n = 0 := by unfold keepN; omega
    rw [e]
    have h1 : ¬ (0 : Int) > (n : Int) := by omega
    go_enter Try.func47, Try.ntmps47
    go_wp2
    go_ret
    exact ⟨rfl, rfl⟩
  · by_cases h1 : m > n
    · have e : keepN m n = n := by unfold keepN; omega
      rw [e]
      go_enter Try.func47, Try.ntmps47
      go_wp2
      go_ret
      exact ⟨rfl, rfl⟩
    · obtain ⟨k, rfl⟩ : ∃ k : Nat, m = k := ⟨m.toNat, by omega⟩
      have e : keepN k n = k := by unfold keepN; omega
      rw [e]
      have h2 : (k : Int) ≤ (c : Int) := by omega
      have h3 : (0 : Int) ≤ (k : Int) := by omega
      go_enter Try.func47, Try.ntmps47
      go_wp2
      go_ret
      exact ⟨rfl, rfl⟩
end Go.Proofs.Ytoabpjdpdcpdlaa
