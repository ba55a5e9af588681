/- The document's own disk (foremanref01) by the number of its segment or slot; when it holds what the program's disk holds. No statement of the seat is proved here. -/
import Derived.Test.YtoabpjdpdcpdlaaRef7
import Derived.Test.YtoabpjdpdcpdlaaRef8
import Derived.Test.YtoabpjdpdcpdlaaRef9
import Derived.Test.YtoabpjdpdcpdlaaRef10
import Derived.Test.YtoabpjdpdcpdlaaRef12
namespace Go.Proofs.Ytoabpjdpdcpdlaa
open Go.RowKit

section
variable (c : Int) (P : Nat → Option Addr) (N C : Nat → Nat) (bf : Bool) (n k : Int) (w : World)

theorem rWrite_kill (i : Nat) (hi : i < 2) (a : Option Addr) (q : Nat) (n' : Int) (hk : Kills c P N C bf n k n' true) : Calls Try.prog 38 #[.agg (rl c P N C bf n k false), .int .i64 i, .slice a 32 q] w fun e w' => e = .returned (.tuple #[.agg (rl c P N C bf n' k true), .int .i64 3]) ∧ Below w.heap.size w w' := by
  rcases (show i = 0 ∨ i = 1 by omega) with rfl | rfl
  · exact ref_write_kill0 c P N C bf n k w a q n' hk
  · exact ref_write_kill1 c P N C bf n k w a q n' hk

theorem rWrite_ok (i : Nat) (hi : i < 2) (n' : Int) (hk : Kills c P N C bf n k n' false) (a : Option Addr) (q : Nat) (bs : List UInt8) (hu : Bytes w (.slice a 32 q) bs) (hbl : bs.length = 32) : Calls Try.prog 38 #[.agg (rl c P N C bf n k false), .int .i64 i, .slice a 32 q] w fun e w' => ∃ ra rc, e = .returned (.tuple #[.agg (rl c (upd P (5 + 2 * i) ra) (upd N (5 + 2 * i) 32) (upd C (5 + 2 * i) rc) bf n' k false), .int .i64 0]) ∧ Bytes w' (.slice ra 32 rc) bs ∧ (∀ k, (Value.slice ra 32 rc).ownBlock = some k → w.heap.size ≤ k) ∧ Below w.heap.size w w' := by
  rcases (show i = 0 ∨ i = 1 by omega) with rfl | rfl
  · exact ref_write_ok0 c P N C bf n k w n' hk a q bs hu hbl
  · exact ref_write_ok1 c P N C bf n k w n' hk a q bs hu hbl

theorem rRead_at (i : Nat) (hi : i < 2) (x : Nat → List UInt8) (hb : ∀ j, j < 4 → Bytes w (.slice (P j) (N j) (C j)) (x j)) (hl : (x 0).length + (x 1).length ≤ 1048576 ∧ (x 2).length + (x 3).length ≤ 1048576) : Calls Try.prog 49 #[.agg (rl c P N C bf n k false), .int .i64 i] w fun e w' => ∃ r, e = .returned r ∧ Fresh w w' r (x (2 * i) ++ x (2 * i + 1)) := by
  rcases (show i = 0 ∨ i = 1 by omega) with rfl | rfl
  · exact ref_read_at0 c P N C bf n k w (x 0) (x 1) (hb 0 (by omega)) (hb 1 (by omega)) (by omega)
  · exact ref_read_at1 c P N C bf n k w (x 2) (x 3) (hb 2 (by omega)) (hb 3 (by omega)) (by omega)

theorem rHead_at (i : Nat) (hi : i < 2) (j : Nat) (h : HeadAt N (4 + 2 * i) j) : Calls Try.prog 41 #[.agg (rl c P N C bf n k false), .int .i64 i] w fun e w' => e = .returned (.slice (P j) (N j) (C j)) ∧ Below w.heap.size w w' := by
  rcases (show i = 0 ∨ i = 1 by omega) with rfl | rfl
  · exact ref_head_at0 c P N C bf n k w j h
  · exact ref_head_at1 c P N C bf n k w j h
end

/-- The fuses agree. -/
def FuseOk (A : AD) (bf : Bool) (n k : Int) : Prop := (bf = false ∧ A.calls = -1) ∨ (bf = true ∧ n = A.calls ∧ 0 ≤ A.calls ∧ k = max A.part 0)

/-- The document's disk holds what the program's does. -/
structure Agree (A : AD) (c : Int) (x : Nat → List UInt8) (bf : Bool) (n k : Int) (d : Bool) : Prop where
  cap : c = A.cap
  seg : ∀ i, i < 2 → x (2 * i) ++ x (2 * i + 1) = A.x i
  safe : ∀ i, i < 2 → (x (2 * i)).length = A.safe i
  sf : ∀ i, i < 2 → x (4 + 2 * i) = A.sf i
  sh : ∀ i, i < 2 → (x (5 + 2 * i) = [] ∧ A.sh i = A.sf i) ∨ ((x (5 + 2 * i)).length = 32 ∧ x (5 + 2 * i) = A.sh i)
  fuse : FuseOk A bf n k
  dead : d = A.dead

/-- The slices of the document's disk, read, in blocks of B. -/
def Bs (w : World) (B : Nat → Prop) (P : Nat → Option Addr) (N C : Nat → Nat) (x : Nat → List UInt8) : Prop := ∀ j, j < 8 → Bytes w (.slice (P j) (N j) (C j)) (x j) ∧ (x j ≠ [] → ∀ b, (Value.slice (P j) (N j) (C j)).ownBlock = some b → B b)

/-- The cells cs are a disk of the document that holds what A says. -/
def RefV (w : World) (B : Nat → Prop) (A : AD) (cs : Array Value) : Prop := ∃ c P N C bf n k d x, cs = rl c P N C bf n k d ∧ Bs w B P N C x ∧ Agree A c x bf n k d

section
variable {w w' : World} {B : Nat → Prop} {P : Nat → Option Addr} {N C : Nat → Nat} {x : Nat → List UInt8} {A : AD} {c : Int} {bf : Bool} {n k : Int} {d : Bool}
theorem Bs.later (h : Bs w B P N C x) (hb : Below w.heap.size w w') : Bs w' B P N C x := fun j hj => ⟨(h j hj).1.kept fun b _ hl => hb.block b hl, (h j hj).2⟩
theorem Bs.put (h : Bs w B P N C x) (i : Nat) {a : Option Addr} {m q : Nat} {bs : List UInt8} (hb : Bytes w (.slice a m q) bs) (hk : bs ≠ [] → ∀ b, (Value.slice a m q).ownBlock = some b → B b) : Bs w B (upd P i a) (upd N i m) (upd C i q) (upd x i bs) := fun j hj => by
  by_cases e : j = i
  · subst e; simp only [upd_same]; exact ⟨hb, hk⟩
  · simp only [upd_other _ _ e]; exact h j hj
theorem Bs.nil (h : Bs w B P N C x) (i : Nat) : Bs w B (upd P i none) (upd N i 0) (upd C i 0) (upd x i []) := h.put i (.inl ⟨rfl, rfl⟩) (fun hn => (hn rfl).elim)
theorem Bs.len (h : Bs w B P N C x) (j : Nat) (hj : j < 8) : (x j).length = N j := (bytes_len (h j hj).1).1

theorem Agree.lens (h : Agree A c x bf n k d) (hok : A.Ok) : ((x 0).length + (x 1).length ≤ 1048576 ∧ (x 2).length + (x 3).length ≤ 1048576) ∧ (0 ≤ c ∧ c ≤ 1048576) ∧ ((x 0).length + (x 1).length : Nat) + ((x 2).length + (x 3).length : Nat) = (A.x 0).length + (A.x 1).length := by
  have h0 : x 0 ++ x 1 = A.x 0 := h.seg 0 (by omega)
  have h1 : x 2 ++ x 3 = A.x 1 := h.seg 1 (by omega)
  have e0 := congrArg List.length h0
  have e1 := congrArg List.length h1
  rw [List.length_append] at e0 e1
  have hr := hok.room
  have hc := hok.cap
  have := h.cap
  refine ⟨⟨by omega, by omega⟩, ⟨by omega, by omega⟩, by omega⟩
theorem Agree.segLen (h : Agree A c x bf n k d) (i : Nat) (hi : i < 2) : (x (2 * i)).length + (x (2 * i + 1)).length = (A.x i).length := by
  rw [← List.length_append, h.seg i hi]

theorem kills_dead (hf : FuseOk A bf n k) (h0 : A.calls = 0) : Kills c P N C bf n k 0 true ∧ bf = true ∧ n = 0 ∧ k = max A.part 0 := by
  rcases hf with ⟨_, h⟩ | ⟨rfl, rfl, _, hk⟩
  · omega
  · rw [h0]
    exact ⟨fun w => kills_yes c P N C k false w, rfl, rfl, hk⟩

theorem kills_alive (hf : FuseOk A bf n k) (h0 : A.calls ≠ 0) (hle : A.calls ≤ 9223372036854775807) : ∃ n', Kills c P N C bf n k n' false ∧ FuseOk A.tick bf n' k := by
  rcases hf with ⟨rfl, h⟩ | ⟨rfl, rfl, hp, hk⟩
  · refine ⟨n, fun w => kills_no c P N C n k false w, .inl ⟨rfl, ?_⟩⟩
    show (if 0 < A.calls then A.calls - 1 else A.calls) = -1
    rw [if_neg (by omega)]; exact h
  · refine ⟨A.calls - 1, fun w => kills_tick c P N C A.calls k false w (by omega) hle, .inr ⟨rfl, ?_, ?_, hk⟩⟩
    · show _ = (if 0 < A.calls then A.calls - 1 else A.calls)
      rw [if_pos (by omega)]
    · show 0 ≤ (if 0 < A.calls then A.calls - 1 else A.calls)
      rw [if_pos (by omega)]; omega
end
end Go.Proofs.Ytoabpjdpdcpdlaa

namespace Go.Proofs.Ytoabpjdpdcpdlaa
open Go.RowKit

section
variable {A A1 : AD} {c : Int} {x : Nat → List UInt8} {bf : Bool} {n k : Int} {d : Bool}

theorem Agree.app (h : Agree A c x bf n k d) (i : Nat) (hi : i < 2) (bs : List UInt8) (hc : A1.cap = A.cap) (hx : A1.x = upd A.x i (A.x i ++ bs)) (hs : A1.safe = A.safe) (hsf : A1.sf = A.sf) (hsh : A1.sh = A.sh) {n' : Int} {d' : Bool} (hf : FuseOk A1 bf n' k) (hd : d' = A1.dead) :
    Agree A1 c (upd x (2 * i + 1) (x (2 * i + 1) ++ bs)) bf n' k d' := by
  refine ⟨by rw [hc]; exact h.cap, fun j hj => ?_, fun j hj => ?_, fun j hj => ?_, fun j hj => ?_, hf, hd⟩
  · rw [hx]
    by_cases e : j = i
    · subst e; rw [upd_other _ _ (by omega), upd_same, upd_same, ← List.append_assoc, h.seg j hj]
    · rw [upd_other _ _ (by omega), upd_other _ _ (by omega), upd_other _ _ e, h.seg j hj]
  · rw [upd_other _ _ (by omega), hs]; exact h.safe j hj
  · rw [upd_other _ _ (by omega), hsf]; exact h.sf j hj
  · rw [upd_other _ _ (by omega), hsf, hsh]; exact h.sh j hj

theorem Agree.same (h : Agree A c x bf n k d) (hc : A1.cap = A.cap) (hx : A1.x = A.x) (hs : A1.safe = A.safe) (hsf : A1.sf = A.sf) (hsh : A1.sh = A.sh) {bf' : Bool} {n' k' : Int} {d' : Bool} (hf : FuseOk A1 bf' n' k') (hd : d' = A1.dead) :
    Agree A1 c x bf' n' k' d' := by
  refine ⟨by rw [hc]; exact h.cap, fun j hj => ?_, fun j hj => ?_, fun j hj => ?_, fun j hj => ?_, hf, hd⟩
  · rw [hx]; exact h.seg j hj
  · rw [hs]; exact h.safe j hj
  · rw [hsf]; exact h.sf j hj
  · rw [hsf, hsh]; exact h.sh j hj

theorem Agree.sync (h : Agree A c x bf n k d) (i : Nat) (hi : i < 2) (hc : A1.cap = A.cap) (hx : A1.x = A.x) (hs : A1.safe = upd A.safe i (A.x i).length) (hsf : A1.sf = A.sf) (hsh : A1.sh = A.sh) {n' : Int} {d' : Bool} (hf : FuseOk A1 bf n' k) (hd : d' = A1.dead) :
    Agree A1 c (upd (upd x (2 * i) (x (2 * i) ++ x (2 * i + 1))) (2 * i + 1) []) bf n' k d' := by
  refine ⟨by rw [hc]; exact h.cap, fun j hj => ?_, fun j hj => ?_, fun j hj => ?_, fun j hj => ?_, hf, hd⟩
  · rw [hx]
    by_cases e : j = i
    · subst e; rw [upd_other _ _ (by omega), upd_same, upd_same, List.append_nil, h.seg j hj]
    · rw [upd_other _ _ (by omega), upd_other _ _ (by omega), upd_other _ _ (by omega), upd_other _ _ (by omega), h.seg j hj]
  · rw [hs]
    by_cases e : j = i
    · subst e; rw [upd_other _ _ (by omega), upd_same, upd_same, h.seg j hj]
    · rw [upd_other _ _ (by omega), upd_other _ _ (by omega), upd_other _ _ e]; exact h.safe j hj
  · rw [upd_other _ _ (by omega), upd_other _ _ (by omega), hsf]; exact h.sf j hj
  · rw [upd_other _ _ (by omega), upd_other _ _ (by omega), hsf, hsh]; exact h.sh j hj

theorem Agree.cut (h : Agree A c x bf n k d) (i : Nat) (hi : i < 2) (m s : Nat) (hm : m ≤ (A.x i).length) (hsm : s = min (x (2 * i)).length m) (hc : A1.cap = A.cap) (hx : A1.x = upd A.x i ((A.x i).take m)) (hs : A1.safe = upd A.safe i (min (A.safe i) m)) (hsf : A1.sf = A.sf) (hsh : A1.sh = A.sh) {n' : Int} {d' : Bool} (hf : FuseOk A1 bf n' k) (hd : d' = A1.dead) :
    Agree A1 c (upd (upd x (2 * i) (((x (2 * i) ++ x (2 * i + 1)).take m).take s)) (2 * i + 1) (((x (2 * i) ++ x (2 * i + 1)).take m).drop s)) bf n' k d' := by
  refine ⟨by rw [hc]; exact h.cap, fun j hj => ?_, fun j hj => ?_, fun j hj => ?_, fun j hj => ?_, hf, hd⟩
  · rw [hx]
    by_cases e : j = i
    · subst e; rw [upd_other _ _ (by omega), upd_same, upd_same, upd_same, List.take_append_drop, h.seg j hj]
    · rw [upd_other _ _ (by omega), upd_other _ _ (by omega), upd_other _ _ (by omega), upd_other _ _ (by omega), upd_other _ _ e, h.seg j hj]
  · rw [hs]
    by_cases e : j = i
    · subst e; rw [upd_other _ _ (by omega), upd_same, upd_same, List.length_take, List.length_take, h.seg j hj, ← h.safe j hj]; omega
    · rw [upd_other _ _ (by omega), upd_other _ _ (by omega), upd_other _ _ e]; exact h.safe j hj
  · rw [upd_other _ _ (by omega), upd_other _ _ (by omega), hsf]; exact h.sf j hj
  · rw [upd_other _ _ (by omega), upd_other _ _ (by omega), hsf, hsh]; exact h.sh j hj

theorem Agree.write (h : Agree A c x bf n k d) (i : Nat) (hi : i < 2) (bs : List UInt8) (hb : bs.length = 32) (hc : A1.cap = A.cap) (hx : A1.x = A.x) (hs : A1.safe = A.safe) (hsf : A1.sf = A.sf) (hsh : A1.sh = upd A.sh i bs) {n' : Int} {d' : Bool} (hf : FuseOk A1 bf n' k) (hd : d' = A1.dead) :
    Agree A1 c (upd x (5 + 2 * i) bs) bf n' k d' := by
  refine ⟨by rw [hc]; exact h.cap, fun j hj => ?_, fun j hj => ?_, fun j hj => ?_, fun j hj => ?_, hf, hd⟩
  · rw [hx, upd_other _ _ (by omega), upd_other _ _ (by omega)]; exact h.seg j hj
  · rw [hs, upd_other _ _ (by omega)]; exact h.safe j hj
  · rw [upd_other _ _ (by omega), hsf]; exact h.sf j hj
  · rw [hsf, hsh]
    by_cases e : j = i
    · subst e; rw [upd_same, upd_same]; exact .inr ⟨hb, rfl⟩
    · rw [upd_other _ _ (by omega), upd_other _ _ e]; exact h.sh j hj

theorem Agree.syncHead (h : Agree A c x bf n k d) (hc : A1.cap = A.cap) (hx : A1.x = A.x) (hs : A1.safe = A.safe) (hsf : A1.sf = upd (upd A.sf 0 (A.sh 0)) 1 (A.sh 1)) (hsh : A1.sh = A.sh) {n' : Int} {d' : Bool} (hf : FuseOk A1 bf n' k) (hd : d' = A1.dead) :
    Agree A1 c (upd (upd (upd (upd x 4 (A.sh 0)) 5 []) 6 (A.sh 1)) 7 []) bf n' k d' := by
  refine ⟨by rw [hc]; exact h.cap, fun j hj => ?_, fun j hj => ?_, fun j hj => ?_, fun j hj => ?_, hf, hd⟩
  · rw [hx, upd_other _ _ (by omega), upd_other _ _ (by omega), upd_other _ _ (by omega), upd_other _ _ (by omega), upd_other _ _ (by omega), upd_other _ _ (by omega), upd_other _ _ (by omega), upd_other _ _ (by omega)]; exact h.seg j hj
  · rw [hs, upd_other _ _ (by omega), upd_other _ _ (by omega), upd_other _ _ (by omega), upd_other _ _ (by omega)]; exact h.safe j hj
  · rw [hsf]
    rcases (show j = 0 ∨ j = 1 by omega) with rfl | rfl <;> rfl
  · rw [hsf, hsh]
    rcases (show j = 0 ∨ j = 1 by omega) with rfl | rfl <;> exact .inl ⟨rfl, rfl⟩

theorem head_of (h : Agree A c x bf n k d) (hok : A.Ok) {N : Nat → Nat} (hN : ∀ j, j < 8 → (x j).length = N j) (i : Nat) (hi : i < 2) : ∃ j, HeadAt N (4 + 2 * i) j ∧ j < 8 ∧ x j = A.sh i := by
  have h32 := hok.sh i hi
  rcases h.sh i hi with ⟨h1, h2⟩ | ⟨h1, h2⟩
  · refine ⟨4 + 2 * i, .inr ⟨rfl, ?_⟩, by omega, by rw [h.sf i hi, h2]⟩
    have := hN (5 + 2 * i) (by omega)
    rw [h1] at this
    show N (4 + 2 * i + 1) = 0
    rw [show 4 + 2 * i + 1 = 5 + 2 * i by omega]; simpa using this.symm
  · refine ⟨5 + 2 * i, .inl ⟨by omega, ?_⟩, by omega, h2⟩
    have := hN (5 + 2 * i) (by omega)
    rw [show 4 + 2 * i + 1 = 5 + 2 * i by omega]; omega

theorem slot_crash (h : Agree A c x bf n k d) (i : Nat) (hi : i < 2) (e : Int) : (x (5 + 2 * i)).take (keepN e (x (5 + 2 * i)).length) ++ (x (4 + 2 * i)).drop (keepN e (x (5 + 2 * i)).length) = (A.sh i).take (keepN e 32) ++ (A.sf i).drop (keepN e 32) := by
  rcases h.sh i hi with ⟨h1, h2⟩ | ⟨h1, h2⟩
  · rw [h1, h2, List.take_append_drop, h.sf i hi]
    have : keepN e ([] : List UInt8).length = 0 := by have := keepN_le e 0; simpa using this
    rw [this]; simp
  · rw [h1, h2, h.sf i hi]

theorem seg_crash (h : Agree A c x bf n k d) (i : Nat) (hi : i < 2) (e : Int) : x (2 * i) ++ (x (2 * i + 1)).take (keepN e (x (2 * i + 1)).length) = (A.x i).take (A.safe i + keepN e ((A.x i).length - A.safe i)) ∧ (x (2 * i) ++ (x (2 * i + 1)).take (keepN e (x (2 * i + 1)).length)).length = A.safe i + keepN e ((A.x i).length - A.safe i) := by
  have h1 := h.segLen i hi
  have h2 := h.safe i hi
  have h3 : (A.x i).length - A.safe i = (x (2 * i + 1)).length := by omega
  have h4 := keepN_le e (x (2 * i + 1)).length
  rw [h3, ← h.seg i hi, ← h2]
  refine ⟨?_, by rw [List.length_append, List.length_take]; omega⟩
  rw [List.take_append, Nat.add_sub_cancel_left, List.take_of_length_le (Nat.le_add_right _ _)]

theorem Agree.crash (h : Agree A c x bf n k d) (e0 e1 e2 e3 : Int) (x' : Nat → List UInt8)
    (h0 : x' = upd (upd (upd (upd (upd (upd (upd (upd x 0 (x 0 ++ (x 1).take (keepN e0 (x 1).length))) 1 []) 4 ((x 5).take (keepN e2 (x 5).length) ++ (x 4).drop (keepN e2 (x 5).length))) 5 []) 2 (x 2 ++ (x 3).take (keepN e1 (x 3).length))) 3 []) 6 ((x 7).take (keepN e3 (x 7).length) ++ (x 6).drop (keepN e3 (x 7).length))) 7 []) :
    Agree (A.crashed (kp e0 e1 e2 e3)) c x' false n k false := by
  subst h0
  have a0 := seg_crash h 0 (by omega) e0
  have a1 := seg_crash h 1 (by omega) e1
  have b0 := slot_crash h 0 (by omega) e2
  have b1 := slot_crash h 1 (by omega) e3
  refine ⟨h.cap, fun j hj => ?_, fun j hj => ?_, fun j hj => ?_, fun j hj => ?_, .inl ⟨rfl, rfl⟩, rfl⟩
  · rcases (show j = 0 ∨ j = 1 by omega) with rfl | rfl
    · show (x 0 ++ (x 1).take (keepN e0 (x 1).length)) ++ [] = _
      rw [List.append_nil]; exact a0.1
    · show (x 2 ++ (x 3).take (keepN e1 (x 3).length)) ++ [] = _
      rw [List.append_nil]; exact a1.1
  · rcases (show j = 0 ∨ j = 1 by omega) with rfl | rfl
    · exact a0.2
    · exact a1.2
  · rcases (show j = 0 ∨ j = 1 by omega) with rfl | rfl
    · exact b0
    · exact b1
  · rcases (show j = 0 ∨ j = 1 by omega) with rfl | rfl
    · exact .inl ⟨rfl, rfl⟩
    · exact .inl ⟨rfl, rfl⟩

theorem Agree.new (cp : Int) (x : Nat → List UInt8) (hx : x = upd (upd (fun _ => []) 4 (List.replicate 32 0)) 6 (List.replicate 32 0)) : Agree (AD.new cp) cp x false 0 0 false := by
  subst hx
  refine ⟨rfl, fun j hj => ?_, fun j hj => ?_, fun j hj => ?_, fun j hj => ?_, .inl ⟨rfl, rfl⟩, rfl⟩
  all_goals rcases (show j = 0 ∨ j = 1 by omega) with rfl | rfl
  all_goals first | rfl | exact .inl ⟨rfl, rfl⟩
end
end Go.Proofs.Ytoabpjdpdcpdlaa

namespace Go.Proofs.Ytoabpjdpdcpdlaa
open Go.RowKit

def RefB (f : FuncId) (A A' : AD) (err : Int) (s : Int) (bs : List UInt8) : Prop := ∀ (w : World) (B : Nat → Prop) (cs : Array Value) (a : Option Addr) (m q : Nat), RefV w B A cs → (∀ b, w.heap.size ≤ b → B b) → Bytes w (.slice a m q) bs → Calls Try.prog f #[.agg cs, .int .i64 s, .slice a m q] w fun e w' => ∃ cs', e = .returned (.tuple #[.agg cs', .int .i64 err]) ∧ RefV w' B A' cs' ∧ Below w.heap.size w w'
def DskB (f : FuncId) (A A' : AD) (err : Int) (s : Int) (bs : List UInt8) : Prop := ∀ (w : World) (D : Nat → Prop) (v : Nat → Value) (p : Nat) (a : Option Addr) (m q : Nat), DiskIs w p D v A → Bytes w (.slice a m q) bs → (bs ≠ [] → ∀ k, (Value.slice a m q).ownBlock = some k → ¬ D k) → Calls Try.prog f #[.pointer (some ⟨p, 0, none⟩), .int .i64 s, .slice a m q] w fun e w' => e = .returned (.int .i64 err) ∧ Now D p A' w w'

def RefS (f : FuncId) (A A' : AD) (err : Int) (s : Int) : Prop := ∀ (w : World) (B : Nat → Prop) (cs : Array Value), RefV w B A cs → (∀ b, w.heap.size ≤ b → B b) → Calls Try.prog f #[.agg cs, .int .i64 s] w fun e w' => ∃ cs', e = .returned (.tuple #[.agg cs', .int .i64 err]) ∧ RefV w' B A' cs' ∧ Below w.heap.size w w'
def DskS (f : FuncId) (A A' : AD) (err : Int) (s : Int) : Prop := ∀ (w : World) (D : Nat → Prop) (v : Nat → Value) (p : Nat), DiskIs w p D v A → Calls Try.prog f #[.pointer (some ⟨p, 0, none⟩), .int .i64 s] w fun e w' => e = .returned (.int .i64 err) ∧ Now D p A' w w'

def RefT (f : FuncId) (A A' : AD) (err : Int) (s m : Int) : Prop := ∀ (w : World) (B : Nat → Prop) (cs : Array Value), RefV w B A cs → (∀ b, w.heap.size ≤ b → B b) → Calls Try.prog f #[.agg cs, .int .i64 s, .int .i64 m] w fun e w' => ∃ cs', e = .returned (.tuple #[.agg cs', .int .i64 err]) ∧ RefV w' B A' cs' ∧ Below w.heap.size w w'
def DskT (f : FuncId) (A A' : AD) (err : Int) (s m : Int) : Prop := ∀ (w : World) (D : Nat → Prop) (v : Nat → Value) (p : Nat), DiskIs w p D v A → Calls Try.prog f #[.pointer (some ⟨p, 0, none⟩), .int .i64 s, .int .i64 m] w fun e w' => e = .returned (.int .i64 err) ∧ Now D p A' w w'

def RefZ (f : FuncId) (A A' : AD) (err : Int)  : Prop := ∀ (w : World) (B : Nat → Prop) (cs : Array Value), RefV w B A cs → (∀ b, w.heap.size ≤ b → B b) → Calls Try.prog f #[.agg cs] w fun e w' => ∃ cs', e = .returned (.tuple #[.agg cs', .int .i64 err]) ∧ RefV w' B A' cs' ∧ Below w.heap.size w w'
def DskZ (f : FuncId) (A A' : AD) (err : Int)  : Prop := ∀ (w : World) (D : Nat → Prop) (v : Nat → Value) (p : Nat), DiskIs w p D v A → Calls Try.prog f #[.pointer (some ⟨p, 0, none⟩)] w fun e w' => e = .returned (.int .i64 err) ∧ Now D p A' w w'

def RefF (f : FuncId) (A A' : AD) (s m : Int) : Prop := ∀ (w : World) (B : Nat → Prop) (cs : Array Value), RefV w B A cs → (∀ b, w.heap.size ≤ b → B b) → Calls Try.prog f #[.agg cs, .int .i64 s, .int .i64 m] w fun e w' => ∃ cs', e = .returned (.agg cs') ∧ RefV w' B A' cs' ∧ Below w.heap.size w w'
def DskF (f : FuncId) (A A' : AD) (s m : Int) : Prop := ∀ (w : World) (D : Nat → Prop) (v : Nat → Value) (p : Nat), DiskIs w p D v A → Calls Try.prog f #[.pointer (some ⟨p, 0, none⟩), .int .i64 s, .int .i64 m] w fun e w' => e = .returned (.tuple #[]) ∧ Now D p A' w w'

def RefC (f : FuncId) (A A' : AD) (e0 e1 e2 e3 : Int) : Prop := ∀ (w : World) (B : Nat → Prop) (cs : Array Value), RefV w B A cs → (∀ b, w.heap.size ≤ b → B b) → Calls Try.prog f #[.agg cs, .agg #[.int .i64 e0, .int .i64 e1, .int .i64 e2, .int .i64 e3]] w fun e w' => ∃ cs', e = .returned (.agg cs') ∧ RefV w' B A' cs' ∧ Below w.heap.size w w'
def DskC (f : FuncId) (A A' : AD) (e0 e1 e2 e3 : Int) : Prop := ∀ (w : World) (D : Nat → Prop) (v : Nat → Value) (p : Nat), DiskIs w p D v A → Calls Try.prog f #[.pointer (some ⟨p, 0, none⟩), .agg #[.int .i64 e0, .int .i64 e1, .int .i64 e2, .int .i64 e3]] w fun e w' => e = .returned (.tuple #[]) ∧ Now D p A' w w'

section
variable {w : World} {p : Nat} {D : Nat → Prop} {v : Nat → Value} {A : AD}

theorem Now.ofStep {A' : AD} {D' : Nat → Prop} {v' : Nat → Value} {w' : World} (h : DiskIs w' p D' v' A') (hs : Step D D' w w') : Now D p A' w w' := ⟨D', v', h, hs⟩
end

theorem seg_of {s : Int} (h : ¬ (s < 0 ∨ 2 ≤ s)) : ∃ i : Nat, i < 2 ∧ s = i := ⟨s.toNat, by omega, by omega⟩

/-- The state of a disk that does not change. -/
theorem RefV.later {w w' : World} {B : Nat → Prop} {A : AD} {cs : Array Value} (h : RefV w B A cs) (hb : Below w.heap.size w w') : RefV w' B A cs := by
  obtain ⟨c, P, N, C, bf, n, k, d, x, rfl, hB, hA⟩ := h
  exact ⟨c, P, N, C, bf, n, k, d, x, rfl, hB.later hb, hA⟩

theorem B_write (A : AD) (hok : A.Ok) (s : Int) (bs : List UInt8) : ∃ A' err, RefB 38 A A' err s bs ∧ DskB 31 A A' err s bs := by
  cases hd : A.dead
  rotate_left
  · refine ⟨A, 3, fun w B cs a m q hV _ hu => ?_, fun w D v p a m q hD hu hn => write_dead hD hd s a m q⟩
    have hV0 := hV
    obtain ⟨c, P, N, C, bf, n, k, d, x, rfl, hB, hA⟩ := hV
    obtain rfl : d = true := hA.dead.trans hd
    exact (ref_write_dead c P N C bf n k w s a m q).mono fun e w' ⟨he, hb⟩ => ⟨_, he, hV0.later hb, hb⟩
  by_cases hs : s < 0 ∨ 2 ≤ s
  · refine ⟨A, 2, fun w B cs a m q hV _ hu => ?_, fun w D v p a m q hD hu hn => write_arg hD hd s a m q (.inl hs)⟩
    have hV0 := hV
    obtain ⟨c, P, N, C, bf, n, k, d, x, rfl, hB, hA⟩ := hV
    obtain rfl : d = false := hA.dead.trans hd
    exact (ref_write_out c P N C bf n k w s a m q hs).mono fun e w' ⟨he, hb⟩ => ⟨_, he, hV0.later hb, hb⟩
  obtain ⟨i, hi, rfl⟩ := seg_of hs
  by_cases h32 : bs.length = 32
  rotate_left
  · refine ⟨A, 2, fun w B cs a m q hV _ hu => ?_, fun w D v p a m q hD hu hn => ?_⟩
    · have hV0 := hV
      obtain ⟨c, P, N, C, bf, n, k, d, x, rfl, hB, hA⟩ := hV
      obtain rfl : d = false := hA.dead.trans hd
      obtain ⟨hbl, hmq⟩ := bytes_len hu
      exact (ref_write_len c P N C bf n k w i a m q (by omega) (by omega) (by omega)).mono fun e w' ⟨he, hb⟩ => ⟨_, he, hV0.later hb, hb⟩
    · obtain ⟨hbl, hmq⟩ := bytes_len hu
      exact write_arg hD hd i a m q (.inr ⟨by omega, by omega, by omega⟩)
  by_cases hc : A.calls = 0
  · refine ⟨{ A with dead := true }, 3, fun w B cs a m q hV hfr hu => ?_, fun w D v p a m q hD hu hn => ?_⟩
    · obtain ⟨hbl, hmq⟩ := bytes_len hu
      obtain rfl : m = 32 := by omega
      obtain ⟨c, P, N, C, bf, n, k, d, x, rfl, hB, hA⟩ := hV
      obtain rfl : d = false := hA.dead.trans hd
      obtain ⟨hk, rfl, rfl, hkk⟩ := kills_dead (c := c) (P := P) (N := N) (C := C) hA.fuse hc
      refine (rWrite_kill c P N C true 0 k w i hi a q 0 hk).mono ?_
      rintro e w' ⟨he, hb⟩
      exact ⟨_, he, ⟨c, _, _, _, true, 0, k, true, _, rfl, hB.later hb, hA.same (A1 := { A with dead := true }) rfl rfl rfl rfl rfl (.inr ⟨rfl, hc.symm, by show 0 ≤ A.calls; omega, hkk⟩) rfl⟩, hb⟩
    · obtain ⟨hbl, hmq⟩ := bytes_len hu
      obtain rfl : m = 32 := by omega
      exact write_kill hD hd hc i hi a q
  · refine ⟨A.tick.wrote i bs, 0, fun w B cs a m q hV hfr hu => ?_, fun w D v p a m q hD hu hn => ?_⟩
    · obtain ⟨hbl, hmq⟩ := bytes_len hu
      obtain rfl : m = 32 := by omega
      obtain ⟨c, P, N, C, bf, n, k, d, x, rfl, hB, hA⟩ := hV
      obtain rfl : d = false := hA.dead.trans hd
      obtain ⟨n', hk, hf⟩ := kills_alive (c := c) (P := P) (N := N) (C := C) hA.fuse hc hok.calls.2
      refine (rWrite_ok c P N C bf n k w i hi n' hk a q bs hu h32).mono ?_
      rintro e w' ⟨ra, rc, he, h1, h2, hb⟩
      exact ⟨_, he, ⟨c, _, _, _, bf, n', k, false, _, rfl, (hB.later hb).put _ h1 (fun _ b hbb => hfr b (h2 b hbb)), hA.write (A1 := A.tick.wrote i bs) i hi bs h32 rfl rfl rfl rfl rfl hf hd.symm⟩, hb⟩
    · obtain ⟨hbl, hmq⟩ := bytes_len hu
      obtain rfl : m = 32 := by omega
      exact write_ok hD hd hc i hi a q bs hu hn h32

theorem B_syncHead (A : AD) (hok : A.Ok) : ∃ A' err, RefZ 39 A A' err ∧ DskZ 32 A A' err := by
  cases hd : A.dead
  rotate_left
  · refine ⟨A, 3, fun w B cs hV _ => ?_, fun w D v p hD => syncHead_dead hD hd⟩
    have hV0 := hV
    obtain ⟨c, P, N, C, bf, n, k, d, x, rfl, hB, hA⟩ := hV
    obtain rfl : d = true := hA.dead.trans hd
    exact (ref_syncHead_dead c P N C bf n k w).mono fun e w' ⟨he, hb⟩ => ⟨_, he, hV0.later hb, hb⟩
  by_cases hc : A.calls = 0
  · refine ⟨{ A with dead := true }, 3, fun w B cs hV hfr => ?_, fun w D v p hD => syncHead_kill hD hd hc⟩
    obtain ⟨c, P, N, C, bf, n, k, d, x, rfl, hB, hA⟩ := hV
    obtain rfl : d = false := hA.dead.trans hd
    obtain ⟨hk, rfl, rfl, hkk⟩ := kills_dead (c := c) (P := P) (N := N) (C := C) hA.fuse hc
    refine (ref_syncHead_kill c P N C true 0 k w 0 hk).mono ?_
    rintro e w' ⟨he, hb⟩
    exact ⟨_, he, ⟨c, _, _, _, true, 0, k, true, _, rfl, hB.later hb, hA.same (A1 := { A with dead := true }) rfl rfl rfl rfl rfl (.inr ⟨rfl, hc.symm, by show 0 ≤ A.calls; omega, hkk⟩) rfl⟩, hb⟩
  · refine ⟨A.tick.syncedHead, 0, fun w B cs hV hfr => ?_, fun w D v p hD => syncHead_ok hD hd hc⟩
    obtain ⟨c, P, N, C, bf, n, k, d, x, rfl, hB, hA⟩ := hV
    obtain rfl : d = false := hA.dead.trans hd
    obtain ⟨n', hk, hf⟩ := kills_alive (c := c) (P := P) (N := N) (C := C) hA.fuse hc hok.calls.2
    obtain ⟨i0, hh0, hl0, hx0⟩ := head_of hA hok (fun j hj => hB.len j hj) 0 (by omega)
    obtain ⟨i1, hh1, hl1, hx1⟩ := head_of hA hok (fun j hj => hB.len j hj) 1 (by omega)
    refine (ref_syncHead_ok c P N C bf n k w n' hk i0 i1 hh0 hh1).mono ?_
    rintro e w' ⟨he, hb⟩
    have hB' := hB.later hb
    have g0 := hB' i0 hl0
    have g1 := hB' i1 hl1
    have hB2 := (((hB'.put 4 g0.1 g0.2).nil 5).put 6 g1.1 g1.2).nil 7
    rw [hx0, hx1] at hB2
    exact ⟨_, he, ⟨c, _, _, _, bf, n', k, false, _, rfl, hB2, hA.syncHead (A1 := A.tick.syncedHead) rfl rfl rfl rfl rfl hf hd.symm⟩, hb⟩

theorem B_fuse (A : AD) (s m : Int) (hs : s ≤ 9223372036854775807) : ∃ A', RefF 26 A A' s m ∧ DskF 25 A A' s m := by
  cases hd : A.dead
  rotate_left
  · refine ⟨A, fun w B cs hV _ => ?_, fun w D v p hD => (fuse_dead hD hd s m).mono fun e w' ⟨he, hw⟩ => ⟨he, by subst hw; exact Now.start hD⟩⟩
    have hV0 := hV
    obtain ⟨c, P, N, C, bf, n, k, d, x, rfl, hB, hA⟩ := hV
    obtain rfl : d = true := hA.dead.trans hd
    exact (ref_fuse_dead c P N C bf n k w s m).mono fun e w' ⟨he, hb⟩ => ⟨_, he, hV0.later hb, hb⟩
  · refine ⟨A.fused s m, fun w B cs hV _ => ?_, fun w D v p hD => (fuse_alive hD hd s m hs).mono fun e w' ⟨he, h1, h2⟩ => ⟨he, D, v, h1, h2⟩⟩
    obtain ⟨c, P, N, C, bf, n, k, d, x, rfl, hB, hA⟩ := hV
    obtain rfl : d = false := hA.dead.trans hd
    refine (ref_fuse c P N C bf n k w s m).mono fun e w' ⟨he, hb⟩ => ⟨_, he, ⟨c, _, _, _, _, _, _, false, _, rfl, hB.later hb, hA.same (A1 := A.fused s m) rfl rfl rfl rfl rfl ?_ hd.symm⟩, hb⟩
    show (_ ∧ max s (-1) = -1) ∨ (_ ∧ s = max s (-1) ∧ 0 ≤ max s (-1) ∧ max m 0 = max m 0)
    by_cases h : 0 ≤ s
    · exact .inr ⟨decide_eq_true h, by omega, by omega, rfl⟩
    · exact .inl ⟨decide_eq_false h, by omega⟩

theorem B_crash (A : AD) (hok : A.Ok) (e0 e1 e2 e3 : Int) : ∃ A', RefC 28 A A' e0 e1 e2 e3 ∧ DskC 27 A A' e0 e1 e2 e3 := by
  refine ⟨A.crashed (kp e0 e1 e2 e3), fun w B cs hV hfr => ?_, fun w D v p hD => crash4 hD e0 e1 e2 e3⟩
  obtain ⟨c, P, N, C, bf, n, k, d, x, rfl, hB, hA⟩ := hV
  obtain ⟨l1, l2, l3⟩ := hA.lens hok
  have hN := fun j hj => hB.len j hj
  have s0 : (x 4).length = 32 := by rw [show x 4 = A.sf 0 from hA.sf 0 (by omega)]; exact hok.sf 0 (by omega)
  have s1 : (x 6).length = 32 := by rw [show x 6 = A.sf 1 from hA.sf 1 (by omega)]; exact hok.sf 1 (by omega)
  have s2 : (x 5).length ≤ 32 := by rcases hA.sh 0 (by omega) with ⟨h, _⟩ | ⟨h, _⟩ <;> simp at h <;> simp [h]
  have s3 : (x 7).length ≤ 32 := by rcases hA.sh 1 (by omega) with ⟨h, _⟩ | ⟨h, _⟩ <;> simp at h <;> simp [h]
  refine (ref_crash c P N C bf n k d w x (fun j hj => (hB j hj).1) (fun j hj => ?_) (by rw [← hN 5 (by omega), ← hN 4 (by omega)]; omega) (by rw [← hN 7 (by omega), ← hN 6 (by omega)]; omega) e0 e1 e2 e3).mono ?_
  · rcases (show j = 0 ∨ j = 1 ∨ j = 2 ∨ j = 3 ∨ j = 4 ∨ j = 5 ∨ j = 6 ∨ j = 7 by omega) with rfl | rfl | rfl | rfl | rfl | rfl | rfl | rfl <;> omega
  rintro e w' ⟨a0, n0, c0, a4, n4, c4, a2, n2, c2, a6, n6, c6, he, b0, b2, b4, b6, o0, o2, o4, o6, hb⟩
  rw [← hN 1 (by omega)] at b0
  rw [← hN 3 (by omega)] at b2
  rw [← hN 5 (by omega)] at b4
  rw [← hN 7 (by omega)] at b6
  exact ⟨_, he, ⟨c, _, _, _, false, n, k, false, _, rfl, (((((((((hB.later hb).put 0 b0 (fun _ b h => hfr b (o0 b h))).nil 1).put 4 b4 (fun _ b h => hfr b (o4 b h))).nil 5).put 2 b2 (fun _ b h => hfr b (o2 b h))).nil 3).put 6 b6 (fun _ b h => hfr b (o6 b h))).nil 7), hA.crash e0 e1 e2 e3 _ rfl⟩, hb⟩
end Go.Proofs.Ytoabpjdpdcpdlaa
