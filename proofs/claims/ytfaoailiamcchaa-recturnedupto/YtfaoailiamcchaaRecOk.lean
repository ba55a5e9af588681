/- What is asked of package rec's four functions, as one proposition. No statement of the seat is proved here. -/
import Derived.Test.YtfaoailiamcchaaRecRef5
import Derived.Lib.SlBytesConst
namespace Go.Proofs.Ytfaoailiamcchaa
open Go.RowKit

/-- The functions of package rec answer by definition, and leave all that was there alone. -/
structure RecOk : Prop where
  put : ∀ (r : RecD) (a : Option Addr) (n c : Nat) (w : World), Bytes w (.slice a n c) r.d → n ≤ 1048576 → Calls Try.prog 10 #[.agg #[.int .u8 (r.k.toNat : Nat), .slice a n c]] w fun e w' => ∃ v, e = .returned (.tuple #[v, .int .i64 (putErr r)]) ∧ Bytes w' v (putOf r) ∧ Below w.heap.size w w'
  take : ∀ (a : Option Addr) (n c : Nat) (b : List UInt8) (w : World), Bytes w (.slice a n c) b → n ≤ 1048576 → Calls Try.prog 14 #[.slice a n c] w fun e w' => TookAt w b e w'
  all : ∀ (a : Option Addr) (n c : Nat) (b : List UInt8) (w : World), Bytes w (.slice a n c) b → n ≤ 1048576 → Calls Try.prog 16 #[.slice a n c] w fun e w' => ∃ v rs m x, e = .returned (.tuple #[v, .int .i64 ((m : Nat) : Int), .int .i64 x]) ∧ AllIs b rs m x ∧ RecsAt w' v rs ∧ Below w.heap.size w w'
  long : ∀ (n : Int) (w : World), Calls Try.prog 19 #[.int .i64 n] w fun e w' => e = .returned (.int .i64 (if 0 ≤ n ∧ n ≤ 4096 then n + 9 else 0)) ∧ Below w.heap.size w w'

/-- What is kept along a walk: rows of bytes, records in blocks. -/
structure Kp (w W : World) (L : List (Value × List UInt8)) (M : List (Nat × Array Value)) : Prop where
  bb : Below w.heap.size w W
  byt : ∀ p ∈ L, Bytes W p.1 p.2
  ce : ∀ p ∈ M, W.heap[p.1]? = some (Obj.cells p.2 24 (0, 0))
theorem Kp.start (w : World) : Kp w w [] [] := ⟨Below.refl _ w, fun p hp => (by cases hp), fun p hp => (by cases hp)⟩
theorem Kp.later {w W W' : World} {L : List (Value × List UInt8)} {M : List (Nat × Array Value)} (h : Kp w W L M) (hb : Below W.heap.size W W') : Kp w W' L M :=
  ⟨h.bb.trans (hb.mono h.bb.size), fun p hp => (h.byt p hp).kept fun k _ hk => hb.block k hk, fun p hp => (hb.block _ (Array.getElem?_eq_some_iff.1 (h.ce p hp)).1).trans (h.ce p hp)⟩
theorem Kp.addB {w W : World} {L : List (Value × List UInt8)} {M : List (Nat × Array Value)} (h : Kp w W L M) {v : Value} {bs : List UInt8} (hv : Bytes W v bs) : Kp w W ((v, bs) :: L) M :=
  ⟨h.bb, fun p hp => (List.mem_cons.1 hp).elim (fun e => by rw [e]; exact hv) (h.byt p), h.ce⟩
theorem Kp.addC {w W : World} {L : List (Value × List UInt8)} {M : List (Nat × Array Value)} (h : Kp w W L M) {g : Nat} {cs : Array Value} (hv : W.heap[g]? = some (Obj.cells cs 24 (0, 0))) : Kp w W L ((g, cs) :: M) :=
  ⟨h.bb, h.byt, fun p hp => (List.mem_cons.1 hp).elim (fun e => by rw [e]; exact hv) (h.ce p)⟩
theorem Kp.newC {w W : World} {L : List (Value × List UInt8)} {M : List (Nat × Array Value)} (h : Kp w W L M) (cs : Array Value) : Kp w (W.alloc (.cells cs 24)) L ((W.heap.size, cs) :: M) :=
  (h.later ((Below.refl _ W).alloc (Nat.le_refl _) _)).addC (heap_alloc_new W _)
theorem Kp.new {w W : World} {L : List (Value × List UInt8)} {M : List (Nat × Array Value)} (h : Kp w W L M) (o : Obj) : Kp w (W.alloc o) L M := h.later ((Below.refl _ W).alloc (Nat.le_refl _) _)

theorem bytes_block {W : World} {g : Nat} {t : TypeId} {fr : Nat × Nat} {bs : List UInt8} {cs : Array Value} (h : W.heap[g]? = some (.cells cs t fr)) (hc : cs = (bs.map bv).toArray) (hl : bs.length ≤ 1000) : Bytes W (.slice (some ⟨g, 0, none⟩) bs.length bs.length) bs := by
  refine .inr ⟨⟨g, 0, none⟩, bs.length, rfl, Nat.le_refl _, by unfold maxLen; omega, fun j x hx => ?_⟩
  rw [Addr.add_mid, Nat.zero_add, cell_of_row _ _ _ _ _ _ h, hc]
  simpa using hx

/-- The chapter's record, and its bytes. -/
def exR : RecD := ⟨1, [97, 98]⟩
def exB : List UInt8 := exR.put
theorem exB_len : exB.length = 11 := rfl
theorem exR_err : putErr exR = 0 := by decide +kernel
theorem exR_of : putOf exR = exB := if_pos exR_err
theorem exR_right : exR.right := putErr_zero.1 exR_err
theorem exB_mid : (exB.drop 4).take (9 - 4) = [1, 2, 0, 0, 0] := by decide +kernel
theorem ex_t8 : takeErr (exB.take 8) = 32 := by decide +kernel
theorem ex_t10 : takeErr (exB.take 10) = 32 := by decide +kernel
theorem ex_bad : takeErr (exB.set 10 99) = 33 := by decide +kernel
theorem exB_last : (exB.getD 10 0).toNat = 98 := by decide +kernel
theorem ex_all : AllIs (exB ++ exB ++ [1, 2, 3]) [exR, exR] 22 32 := by
  have h1 := take_put exR exR_right (exB ++ [1, 2, 3])
  have h2 := take_put exR exR_right [1, 2, 3]
  have e3 : takeErr [1, 2, 3] = 32 := by decide +kernel
  have s : AllIs [1, 2, 3] [] 0 32 := by have := AllIs.stop (b := [1, 2, 3]) (by simp) (by rw [e3]; decide); rwa [e3] at this
  have m2 : AllIs (exB ++ [1, 2, 3]) [exR] 11 32 := by
    have := AllIs.more (b := exB ++ [1, 2, 3]) (rs := []) (n := 0) (e := 32) (by simp) h2.1 (by show AllIs ((exR.put ++ [1, 2, 3]).drop (takeLen (exR.put ++ [1, 2, 3]))) _ _ _; rw [h2.2.1]; exact s)
    have e1 : takeRec (exB ++ [1, 2, 3]) = exR := h2.2.2
    have e2 : takeLen (exB ++ [1, 2, 3]) = 11 := h2.2.1
    rwa [e1, e2] at this
  have := AllIs.more (b := exB ++ (exB ++ [1, 2, 3])) (by simp) h1.1 (by show AllIs ((exR.put ++ (exB ++ [1, 2, 3])).drop (takeLen (exR.put ++ (exB ++ [1, 2, 3])))) _ _ _; rw [h1.2.1]; exact m2)
  have e1 : takeRec (exB ++ (exB ++ [1, 2, 3])) = exR := h1.2.2
  have e2 : takeLen (exB ++ (exB ++ [1, 2, 3])) = 11 := h1.2.1
  rw [e1, e2] at this
  rw [List.append_assoc]
  exact this
end Go.Proofs.Ytfaoailiamcchaa
