/- The document's own disk (foremanref01) by the number of its segment or slot; when it holds what the program's disk holds. No statement of the seat is proved here. -/
import Derived.Test.YtbpjlkjokafdnaaRef7
import Derived.Test.YtbpjlkjokafdnaaRef8
import Derived.Test.YtbpjlkjokafdnaaRef9
import Derived.Test.YtbpjlkjokafdnaaRef10
import Derived.Test.YtbpjlkjokafdnaaRef12
namespace Go.Proofs.Ytbpjlkjokafdnaa
open Go.RowKit

section
variable (c : Int) (P : Nat → Option Addr) (N C : Nat → Nat) (bf : Bool) (n k : Int) (w : World)

theorem rAppend_full (i : Nat) (hi : i < 2) (x : Nat → List UInt8) (hb : ∀ j, j < 4 → Bytes w (.slice (P j) (N j) (C j)) (x j)) (hl : (x 0).length + (x 1).length ≤ 1048576 ∧ (x 2).length + (x 3).length ≤ 1048576) (hc : 0 ≤ c ∧ c ≤ 1048576) (a : Option Addr) (m q : Nat) (hm : c < ((x 0).length + (x 1).length : Nat) + ((x 2).length + (x 3).length : Nat) + m) : Calls Try.prog 30 #[.agg (rl c P N C bf n k false), .int .i64 i, .slice a m q] w fun e w' => e = .returned (.tuple #[.agg (rl c P N C bf n k false), .int .i64 5]) ∧ Below w.heap.size w w' := by
  rcases (show i = 0 ∨ i = 1 by omega) with rfl | rfl
  · exact ref_append_full0 c P N C bf n k w x hb hl hc a m q hm
  · exact ref_append_full1 c P N C bf n k w x hb hl hc a m q hm

theorem rAppend_ok (i : Nat) (hi : i < 2) (n' : Int) (hk : Kills c P N C bf n k n' false) (x : Nat → List UInt8) (hb : ∀ j, j < 4 → Bytes w (.slice (P j) (N j) (C j)) (x j)) (hl : (x 0).length + (x 1).length ≤ 1048576 ∧ (x 2).length + (x 3).length ≤ 1048576) (hc : 0 ≤ c ∧ c ≤ 1048576) (a : Option Addr) (m q : Nat) (bs : List UInt8) (hu : Bytes w (.slice a m q) bs) (hbl : bs.length = m) (hmq : m ≤ q) (hm : ((x 0).length + (x 1).length : Nat) + ((x 2).length + (x 3).length : Nat) + (m : Int) ≤ c) : Calls Try.prog 30 #[.agg (rl c P N C bf n k false), .int .i64 i, .slice a m q] w fun e w' => ∃ ra rc, e = .returned (.tuple #[.agg (rl c (upd P (2 * i + 1) ra) (upd N (2 * i + 1) (x (2 * i + 1) ++ bs).length) (upd C (2 * i + 1) rc) bf n' k false), .int .i64 0]) ∧ Bytes w' (.slice ra (x (2 * i + 1) ++ bs).length rc) (x (2 * i + 1) ++ bs) ∧ (∀ k, (Value.slice ra (x (2 * i + 1) ++ bs).length rc).ownBlock = some k → w.heap.size ≤ k) ∧ Below w.heap.size w w' := by
  rcases (show i = 0 ∨ i = 1 by omega) with rfl | rfl
  · exact ref_append_ok0 c P N C bf n k w n' hk x hb hl hc a m q bs hu hbl hmq hm
  · exact ref_append_ok1 c P N C bf n k w n' hk x hb hl hc a m q bs hu hbl hmq hm

theorem rAppend_lt (i : Nat) (hi : i < 2) (t : Nat) (n' : Int) (hk : Kills c P N C bf n (t : Int) n' true) (x : Nat → List UInt8) (hb : ∀ j, j < 4 → Bytes w (.slice (P j) (N j) (C j)) (x j)) (hl : (x 0).length + (x 1).length ≤ 1048576 ∧ (x 2).length + (x 3).length ≤ 1048576) (hc : 0 ≤ c ∧ c ≤ 1048576) (a : Option Addr) (m q : Nat) (bs : List UInt8) (hu : Bytes w (.slice a m q) bs) (hbl : bs.length = m) (hmq : m ≤ q) (hm : ((x 0).length + (x 1).length : Nat) + ((x 2).length + (x 3).length : Nat) + (m : Int) ≤ c) (ht : t < m) : Calls Try.prog 30 #[.agg (rl c P N C bf n (t : Int) false), .int .i64 i, .slice a m q] w fun e w' => ∃ ra rc, e = .returned (.tuple #[.agg (rl c (upd P (2 * i + 1) ra) (upd N (2 * i + 1) (x (2 * i + 1) ++ bs.take t).length) (upd C (2 * i + 1) rc) bf n' (t : Int) true), .int .i64 3]) ∧ Bytes w' (.slice ra (x (2 * i + 1) ++ bs.take t).length rc) (x (2 * i + 1) ++ bs.take t) ∧ (∀ k, (Value.slice ra (x (2 * i + 1) ++ bs.take t).length rc).ownBlock = some k → w.heap.size ≤ k) ∧ Below w.heap.size w w' := by
  rcases (show i = 0 ∨ i = 1 by omega) with rfl | rfl
  · exact ref_append_killLt0 c P N C bf n w t n' hk x hb hl hc a m q bs hu hbl hmq hm ht
  · exact ref_append_killLt1 c P N C bf n w t n' hk x hb hl hc a m q bs hu hbl hmq hm ht

theorem rAppend_ge (i : Nat) (hi : i < 2) (n' : Int) (hk : Kills c P N C bf n k n' true) (x : Nat → List UInt8) (hb : ∀ j, j < 4 → Bytes w (.slice (P j) (N j) (C j)) (x j)) (hl : (x 0).length + (x 1).length ≤ 1048576 ∧ (x 2).length + (x 3).length ≤ 1048576) (hc : 0 ≤ c ∧ c ≤ 1048576) (a : Option Addr) (m q : Nat) (bs : List UInt8) (hu : Bytes w (.slice a m q) bs) (hbl : bs.length = m) (hmq : m ≤ q) (hm : ((x 0).length + (x 1).length : Nat) + ((x 2).length + (x 3).length : Nat) + (m : Int) ≤ c) (hkm : (m : Int) ≤ k) : Calls Try.prog 30 #[.agg (rl c P N C bf n k false), .int .i64 i, .slice a m q] w fun e w' => ∃ ra rc, e = .returned (.tuple #[.agg (rl c (upd P (2 * i + 1) ra) (upd N (2 * i + 1) (x (2 * i + 1) ++ bs).length) (upd C (2 * i + 1) rc) bf n' k true), .int .i64 3]) ∧ Bytes w' (.slice ra (x (2 * i + 1) ++ bs).length rc) (x (2 * i + 1) ++ bs) ∧ (∀ k, (Value.slice ra (x (2 * i + 1) ++ bs).length rc).ownBlock = some k → w.heap.size ≤ k) ∧ Below w.heap.size w w' := by
  rcases (show i = 0 ∨ i = 1 by omega) with rfl | rfl
  · exact ref_append_killGe0 c P N C bf n k w n' hk x hb hl hc a m q bs hu hbl hmq hm hkm
  · exact ref_append_killGe1 c P N C bf n k w n' hk x hb hl hc a m q bs hu hbl hmq hm hkm

theorem rSync_kill (i : Nat) (hi : i < 2) (n' : Int) (hk : Kills c P N C bf n k n' true) : Calls Try.prog 31 #[.agg (rl c P N C bf n k false), .int .i64 i] w fun e w' => e = .returned (.tuple #[.agg (rl c P N C bf n' k true), .int .i64 3]) ∧ Below w.heap.size w w' := by
  rcases (show i = 0 ∨ i = 1 by omega) with rfl | rfl
  · exact ref_sync_kill0 c P N C bf n k w n' hk
  · exact ref_sync_kill1 c P N C bf n k w n' hk

theorem rSync_ok (i : Nat) (hi : i < 2) (n' : Int) (hk : Kills c P N C bf n k n' false) (x : Nat → List UInt8) (hb : ∀ j, j < 4 → Bytes w (.slice (P j) (N j) (C j)) (x j)) (hl : (x 0).length + (x 1).length ≤ 1048576 ∧ (x 2).length + (x 3).length ≤ 1048576) : Calls Try.prog 31 #[.agg (rl c P N C bf n k false), .int .i64 i] w fun e w' => ∃ ra rc, e = .returned (.tuple #[.agg (rl c (upd (upd P (2 * i) ra) (2 * i + 1) none) (upd (upd N (2 * i) (x (2 * i) ++ x (2 * i + 1)).length) (2 * i + 1) 0) (upd (upd C (2 * i) rc) (2 * i + 1) 0) bf n' k false), .int .i64 0]) ∧ Bytes w' (.slice ra (x (2 * i) ++ x (2 * i + 1)).length rc) (x (2 * i) ++ x (2 * i + 1)) ∧ (∀ k, (Value.slice ra (x (2 * i) ++ x (2 * i + 1)).length rc).ownBlock = some k → w.heap.size ≤ k) ∧ Below w.heap.size w w' := by
  rcases (show i = 0 ∨ i = 1 by omega) with rfl | rfl
  · exact ref_sync_ok0 c P N C bf n k w n' hk x hb hl.1
  · exact ref_sync_ok1 c P N C bf n k w n' hk x hb hl.2

theorem rTrunc_long (i : Nat) (hi : i < 2) (x : Nat → List UInt8) (hb : ∀ j, j < 4 → Bytes w (.slice (P j) (N j) (C j)) (x j)) (hl : (x 0).length + (x 1).length ≤ 1048576 ∧ (x 2).length + (x 3).length ≤ 1048576) (m : Int) (hm : ((x (2 * i)).length + (x (2 * i + 1)).length : Nat) < m) : Calls Try.prog 32 #[.agg (rl c P N C bf n k false), .int .i64 i, .int .i64 m] w fun e w' => e = .returned (.tuple #[.agg (rl c P N C bf n k false), .int .i64 2]) ∧ Below w.heap.size w w' := by
  rcases (show i = 0 ∨ i = 1 by omega) with rfl | rfl
  · exact ref_truncate_long0 c P N C bf n k w x hb hl.1 m hm
  · exact ref_truncate_long1 c P N C bf n k w x hb hl.2 m hm

theorem rTrunc_kill (i : Nat) (hi : i < 2) (n' : Int) (hk : Kills c P N C bf n k n' true) (x : Nat → List UInt8) (hb : ∀ j, j < 4 → Bytes w (.slice (P j) (N j) (C j)) (x j)) (hl : (x 0).length + (x 1).length ≤ 1048576 ∧ (x 2).length + (x 3).length ≤ 1048576) (m : Nat) (hm : m ≤ (x (2 * i)).length + (x (2 * i + 1)).length) : Calls Try.prog 32 #[.agg (rl c P N C bf n k false), .int .i64 i, .int .i64 m] w fun e w' => e = .returned (.tuple #[.agg (rl c P N C bf n' k true), .int .i64 3]) ∧ Below w.heap.size w w' := by
  rcases (show i = 0 ∨ i = 1 by omega) with rfl | rfl
  · exact ref_truncate_kill0 c P N C bf n k w n' hk x hb hl.1 m hm
  · exact ref_truncate_kill1 c P N C bf n k w n' hk x hb hl.2 m hm

theorem rTrunc_ok (i : Nat) (hi : i < 2) (n' : Int) (hk : Kills c P N C bf n k n' false) (x : Nat → List UInt8) (hb : ∀ j, j < 4 → Bytes w (.slice (P j) (N j) (C j)) (x j)) (hl : (x 0).length + (x 1).length ≤ 1048576 ∧ (x 2).length + (x 3).length ≤ 1048576) (m : Nat) (hm : m ≤ (x (2 * i)).length + (x (2 * i + 1)).length) (s lf : Nat) (hs : s = min (N (2 * i)) m) (hlf : m = s + lf) : Calls Try.prog 32 #[.agg (rl c P N C bf n k false), .int .i64 i, .int .i64 m] w
    fun e w' => ∃ ra rb rd, e = .returned (.tuple #[.agg (rl c (upd (upd P (2 * i) ra) (2 * i + 1) rb) (upd (upd N (2 * i) s) (2 * i + 1) lf) (upd (upd C (2 * i) s) (2 * i + 1) rd) bf n' k false), .int .i64 0]) ∧ Bytes w' (.slice ra s s) (((x (2 * i) ++ x (2 * i + 1)).take m).take s) ∧ Bytes w' (.slice rb lf rd) (((x (2 * i) ++ x (2 * i + 1)).take m).drop s) ∧ (∀ k, (Value.slice ra s s).ownBlock = some k → w.heap.size ≤ k) ∧ (∀ k, (Value.slice rb lf rd).ownBlock = some k → w.heap.size ≤ k) ∧ Below w.heap.size w w' := by
  rcases (show i = 0 ∨ i = 1 by omega) with rfl | rfl
  · by_cases h : m < N 0
    · obtain rfl : s = m := by show s = m; have : s = min (N 0) m := hs; omega
      obtain rfl : lf = 0 := by omega
      exact ref_truncate_ok0A c P N C bf n k w n' hk x hb hl.1 s hm (by omega)
    · obtain rfl : s = N 0 := by have : s = min (N 0) m := hs; omega
      exact ref_truncate_ok0B c P N C bf n k w n' hk x hb hl.1 m hm (by omega) lf hlf
  · by_cases h : m < N 2
    · obtain rfl : s = m := by have : s = min (N 2) m := hs; omega
      obtain rfl : lf = 0 := by omega
      exact ref_truncate_ok1A c P N C bf n k w n' hk x hb hl.2 s hm (by omega)
    · obtain rfl : s = N 2 := by have : s = min (N 2) m := hs; omega
      exact ref_truncate_ok1B c P N C bf n k w n' hk x hb hl.2 m hm (by omega) lf hlf

theorem rTrunc_out (s m : Int) (hb : (s < 0 ∨ 2 ≤ s) ∨ m < 0) : Calls Try.prog 32 #[.agg (rl c P N C bf n k false), .int .i64 s, .int .i64 m] w fun e w' => e = .returned (.tuple #[.agg (rl c P N C bf n k false), .int .i64 2]) ∧ Below w.heap.size w w' := by
  by_cases h1 : s < 0
  · exact ref_truncate_out_a c P N C bf n k w s m h1
  · by_cases h2 : s > 1
    · exact ref_truncate_out_b c P N C bf n k w s m h1 h2
    · exact ref_truncate_out_c c P N C bf n k w s m h1 h2 (by omega)

theorem rWrite_kill (i : Nat) (hi : i < 2) (a : Option Addr) (q : Nat) (n' : Int) (hk : Kills c P N C bf n k n' true) : Calls Try.prog 33 #[.agg (rl c P N C bf n k false), .int .i64 i, .slice a 32 q] w fun e w' => e = .returned (.tuple #[.agg (rl c P N C bf n' k true), .int .i64 3]) ∧ Below w.heap.size w w' := by
  rcases (show i = 0 ∨ i = 1 by omega) with rfl | rfl
  · exact ref_write_kill0 c P N C bf n k w a q n' hk
  · exact ref_write_kill1 c P N C bf n k w a q n' hk

theorem rWrite_ok (i : Nat) (hi : i < 2) (n' : Int) (hk : Kills c P N C bf n k n' false) (a : Option Addr) (q : Nat) (bs : List UInt8) (hu : Bytes w (.slice a 32 q) bs) (hbl : bs.length = 32) : Calls Try.prog 33 #[.agg (rl c P N C bf n k false), .int .i64 i, .slice a 32 q] w fun e w' => ∃ ra rc, e = .returned (.tuple #[.agg (rl c (upd P (5 + 2 * i) ra) (upd N (5 + 2 * i) 32) (upd C (5 + 2 * i) rc) bf n' k false), .int .i64 0]) ∧ Bytes w' (.slice ra 32 rc) bs ∧ (∀ k, (Value.slice ra 32 rc).ownBlock = some k → w.heap.size ≤ k) ∧ Below w.heap.size w w' := by
  rcases (show i = 0 ∨ i = 1 by omega) with rfl | rfl
  · exact ref_write_ok0 c P N C bf n k w n' hk a q bs hu hbl
  · exact ref_write_ok1 c P N C bf n k w n' hk a q bs hu hbl

theorem rRead_at (i : Nat) (hi : i < 2) (x : Nat → List UInt8) (hb : ∀ j, j < 4 → Bytes w (.slice (P j) (N j) (C j)) (x j)) (hl : (x 0).length + (x 1).length ≤ 1048576 ∧ (x 2).length + (x 3).length ≤ 1048576) : Calls Try.prog 19 #[.agg (rl c P N C bf n k false), .int .i64 i] w fun e w' => ∃ r, e = .returned r ∧ Fresh w w' r (x (2 * i) ++ x (2 * i + 1)) := by
  rcases (show i = 0 ∨ i = 1 by omega) with rfl | rfl
  · exact ref_read_at0 c P N C bf n k w (x 0) (x 1) (hb 0 (by omega)) (hb 1 (by omega)) (by omega)
  · exact ref_read_at1 c P N C bf n k w (x 2) (x 3) (hb 2 (by omega)) (hb 3 (by omega)) (by omega)

theorem rHead_at (i : Nat) (hi : i < 2) (j : Nat) (h : HeadAt N (4 + 2 * i) j) : Calls Try.prog 20 #[.agg (rl c P N C bf n k false), .int .i64 i] w fun e w' => e = .returned (.slice (P j) (N j) (C j)) ∧ Below w.heap.size w w' := by
  rcases (show i = 0 ∨ i = 1 by omega) with rfl | rfl
  · exact ref_head_at0 c P N C bf n k w j h
  · exact ref_head_at1 c P N C bf n k w j h
end

/-- The fuses agree. -/
def FuseOk (A : AD) (bf : Bool) (n k : Int) : Prop := (bf = false ∧ A.calls = -1) ∨ (bf = true ∧ n = A.calls ∧ 0 ≤ A.calls ∧ k = max A.part 0)

/-- The document's disk holds what the program's does. -/
structure Agree (A : AD) (c : Int) (x : Nat → List UInt8) (bf : Bool) (n k : Int) (d : Bool) : Prop where
  cap : c = A.cap
  seg : ∀ i, i < 2 → x (2 * i) ++ x (2 * i + 1) = A.x i
  safe : ∀ i, i < 2 → (x (2 * i)).length = A.safe i
  sf : ∀ i, i < 2 → x (4 + 2 * i) = A.sf i
  sh : ∀ i, i < 2 → (x (5 + 2 * i) = [] ∧ A.sh i = A.sf i) ∨ ((x (5 + 2 * i)).length = 32 ∧ x (5 + 2 * i) = A.sh i)
  fuse : FuseOk A bf n k
  dead : d = A.dead

/-- The slices of the document's disk, read, in blocks of B. -/
def Bs (w : World) (B : Nat → Prop) (P : Nat → Option Addr) (N C : Nat → Nat) (x : Nat → List UInt8) : Prop := ∀ j, j < 8 → Bytes w (.slice (P j) (N j) (C j)) (x j) ∧ (x j ≠ [] → ∀ b, (Value.slice (P j) (N j) (C j)).ownBlock = some b → B b)

/-- The cells cs are a disk of the document that holds what A says. -/
def RefV (w : World) (B : Nat → Prop) (A : AD) (cs : Array Value) : Prop := ∃ c P N C bf n k d x, cs = rl c P N C bf n k d ∧ Bs w B P N C x ∧ Agree A c x bf n k d

section
variable {w w' : World} {B : Nat → Prop} {P : Nat → Option Addr} {N C : Nat → Nat} {x : Nat → List UInt8} {A : AD} {c : Int} {bf : Bool} {n k : Int} {d : Bool}
theorem Bs.later (h : Bs w B P N C x) (hb : Below w.heap.size w w') : Bs w' B P N C x := fun j hj => ⟨(h j hj).1.kept fun b _ hl => hb.block b hl, (h j hj).2⟩
theorem Bs.put (h : Bs w B P N C x) (i : Nat) {a : Option Addr} {m q : Nat} {bs : List UInt8} (hb : Bytes w (.slice a m q) bs) (hk : bs ≠ [] → ∀ b, (Value.slice a m q).ownBlock = some b → B b) : Bs w B (upd P i a) (upd N i m) (upd C i q) (upd x i bs) := fun j hj => by
  by_cases e : j = i
  · subst e; simp only [upd_same]; exact ⟨hb, hk⟩
  · simp only [upd_other _ _ e]; exact h j hj
theorem Bs.nil (h : Bs w B P N C x) (i : Nat) : Bs w B (upd P i none) (upd N i 0) (upd C i 0) (upd x i []) := h.put i (.inl ⟨rfl, rfl⟩) (fun hn => (hn rfl).elim)
theorem Bs.len (h : Bs w B P N C x) (j : Nat) (hj : j < 8) : (x j).length = N j := (bytes_len (h j hj).1).1

theorem Agree.lens (h : Agree A c x bf n k d) (hok : A.Ok) : ((x 0).length + (x 1).length ≤ 1048576 ∧ (x 2).length + (x 3).length ≤ 1048576) ∧ (0 ≤ c ∧ c ≤ 1048576) ∧ ((x 0).length + (x 1).length : Nat) + ((x 2).length + (x 3).length : Nat) = (A.x 0).length + (A.x 1).length := by
  have h0 : x 0 ++ x 1 = A.x 0 := h.seg 0 (by omega)
  have h1 : x 2 ++ x 3 = A.x 1 := h.seg 1 (by omega)
  have e0 := congrArg List.length h0
  have e1 := congrArg List.length h1
  rw [List.length_append] at e0 e1
  have hr := hok.room
  have hc := hok.cap
  have := h.cap
  refine ⟨⟨by omega, by omega⟩, ⟨by omega, by omega⟩, by omega⟩
theorem Agree.segLen (h : Agree A c x bf n k d) (i : Nat) (hi : i < 2) : (x (2 * i)).length + (x (2 * i + 1)).length = (A.x i).length := by
  rw [← List.length_append, h.seg i hi]

theorem kills_dead (hf : FuseOk A bf n k) (h0 : A.calls = 0) : Kills c P N C bf n k 0 true ∧ bf = true ∧ n = 0 ∧ k = max A.part 0 := by
  rcases hf with ⟨_, h⟩ | ⟨rfl, rfl, _, hk⟩
  · omega
  · rw [h0]
    exact ⟨fun w => kills_yes c P N C k false w, rfl, rfl, hk⟩

theorem kills_alive (hf : FuseOk A bf n k) (h0 : A.calls ≠ 0) (hle : A.calls ≤ 9223372036854775807) : ∃ n', Kills c P N C bf n k n' false ∧ FuseOk A.tick bf n' k := by
  rcases hf with ⟨rfl, h⟩ | ⟨rfl, rfl, hp, hk⟩
  · refine ⟨n, fun w => kills_no c P N C n k false w, .inl ⟨rfl, ?_⟩⟩
    show (if 0 < A.calls then A.calls - 1 else A.calls) = -1
    rw [if_neg (by omega)]; exact h
  · refine ⟨A.calls - 1, fun w => kills_tick c P N C A.calls k false w (by omega) hle, .inr ⟨rfl, ?_, ?_, hk⟩⟩
    · show _ = (if 0 < A.calls then A.calls - 1 else A.calls)
      rw [if_pos (by omega)]
    · show 0 ≤ (if 0 < A.calls then A.calls - 1 else A.calls)
      rw [if_pos (by omega)]; omega
end
end Go.Proofs.Ytbpjlkjokafdnaa
