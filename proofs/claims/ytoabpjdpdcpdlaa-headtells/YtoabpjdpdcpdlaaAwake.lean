/- The chapter's examples, as the statements ask them: 'awake' returns true. No statement of the seat is proved here. -/
import Derived.Test.YtoabpjdpdcpdlaaMeth6
namespace Go.Proofs.Ytoabpjdpdcpdlaa
open Go.RowKit

/-- Four numbers by their places. -/
def kp (a b c d : Int) : Nat → Int
  | 0 => a
  | 1 => b
  | 2 => c
  | _ => d

theorem crash4 {w : World} {p : Nat} {D : Nat → Prop} {v : Nat → Value} {A : AD} (h : DiskIs w p D v A) (a b c d : Int) : Calls Try.prog 27 #[.pointer (some ⟨p, 0, none⟩), .agg #[.int .i64 a, .int .i64 b, .int .i64 c, .int .i64 d]] w fun e w' => e = .returned (.tuple #[]) ∧ Now D p (A.crashed (kp a b c d)) w w' := crash_any h (kp a b c d)

theorem three_boxes (w : World) (x y z : Value) (t s r : TypeId) : (((w.alloc (.cells #[x] t)).alloc (.cells #[y] s)).alloc (.cells #[z] r)).cell? ⟨w.heap.size, 0, none⟩ = some x ∧ (((w.alloc (.cells #[x] t)).alloc (.cells #[y] s)).alloc (.cells #[z] r)).cell? ⟨w.heap.size + 1, 0, none⟩ = some y ∧ (((w.alloc (.cells #[x] t)).alloc (.cells #[y] s)).alloc (.cells #[z] r)).cell? ⟨w.heap.size + 2, 0, none⟩ = some z := by
  have h1 : (((w.alloc (.cells #[x] t)).alloc (.cells #[y] s)).alloc (.cells #[z] r)).heap[w.heap.size]? = some (.cells #[x] t (0, 0)) := by
    rw [Below.heap_alloc _ _ _ (by simp; omega), Below.heap_alloc _ _ _ (by simp)]; exact heap_alloc_new w _
  have h2 : (((w.alloc (.cells #[x] t)).alloc (.cells #[y] s)).alloc (.cells #[z] r)).heap[w.heap.size + 1]? = some (.cells #[y] s (0, 0)) := by
    rw [Below.heap_alloc _ _ _ (by simp)]
    have := heap_alloc_new (w.alloc (.cells #[x] t)) (.cells #[y] s)
    have e : (w.alloc (.cells #[x] t)).heap.size = w.heap.size + 1 := by simp
    rw [e] at this; exact this
  have h3 : (((w.alloc (.cells #[x] t)).alloc (.cells #[y] s)).alloc (.cells #[z] r)).heap[w.heap.size + 2]? = some (.cells #[z] r (0, 0)) := by
    have := heap_alloc_new ((w.alloc (.cells #[x] t)).alloc (.cells #[y] s)) (.cells #[z] r)
    have e : ((w.alloc (.cells #[x] t)).alloc (.cells #[y] s)).heap.size = w.heap.size + 2 := by simp
    rw [e] at this; exact this
  exact ⟨cell_of_row _ _ 0 _ _ _ h1, cell_of_row _ _ 0 _ _ _ h2, cell_of_row _ _ 0 _ _ _ h3⟩

theorem lit_bytes (w : World) (cs : Array Value) (n : Nat) (bs : List UInt8) (hn : n = bs.length) (hm : bs.length ≤ 1048576) (hc : cs = (bs.map bv).toArray) : Bytes (w.alloc (.cells cs 5)) (.slice (some ⟨w.heap.size, 0, none⟩) n n) bs := by
  subst hc hn
  refine .inr ⟨⟨w.heap.size, 0, none⟩, bs.length, rfl, Nat.le_refl _, by unfold maxLen; omega, fun j u hu => ?_⟩
  rw [Addr.add_mid, Nat.zero_add, cell_of_row _ _ _ _ _ _ (heap_alloc_new w _)]
  simpa using hu

def S0 : AD := AD.new 10
def S1 : AD := { S0.tick with x := upd S0.x 0 (S0.x 0 ++ [1, 2, 3]) }
def S2 : AD := S1.tick.synced 0
def S3 : AD := { S2.tick with x := upd S2.x 0 (S2.x 0 ++ [4, 5]) }
def S4 : AD := S3.crashed (kp 1 0 0 0)
def S5 : AD := S4.fused 1 2
def S6 : AD := { S5.tick with x := upd S5.x 1 (S5.x 1 ++ [7]) }
def S7 : AD := S6.killed 1 [8, 9, 9]
def S8 : AD := S7.crashed (kp 9 9 0 0)

theorem free5 : S3.cap - (S3.x 0).length - (S3.x 1).length = 5 := by decide +kernel
theorem free6 : S4.cap - (S4.x 0).length - (S4.x 1).length = 6 := by decide +kernel
theorem free3 : S8.cap - (S8.x 0).length - (S8.x 1).length = 3 := by decide +kernel
theorem read4 : S4.x 0 = [1, 2, 3, 4] := by decide +kernel
theorem read8 : S8.x 1 = [7, 8, 9] := by decide +kernel


theorem Step.fresh {D E : Nat → Prop} {a b : World} (h : Step D E a b) (w : World) {r : Value} {bs : List UInt8} (hf : Fresh b w r bs) : Step D E a w := h.trans (hf.step E)

section
variable {w : World} {p : Nat} {D : Nat → Prop} {v : Nat → Value} {A : AD}





theorem read_ok0 (h : DiskIs w p D v A) (hd : A.dead = false) : Calls Try.prog 48 #[.pointer (some ⟨p, 0, none⟩), .int .i64 0] w fun e w' => ∃ r, e = .returned r ∧ Fresh w w' r (A.x 0) := read_ok h hd 0 (by omega)
theorem read_ok1 (h : DiskIs w p D v A) (hd : A.dead = false) : Calls Try.prog 48 #[.pointer (some ⟨p, 0, none⟩), .int .i64 1] w fun e w' => ∃ r, e = .returned r ∧ Fresh w w' r (A.x 1) := read_ok h hd 1 (by omega)
theorem lit_not (h : DiskIs w p D v A) (n c : Nat) {bs : List UInt8} : bs ≠ [] → ∀ k, (Value.slice (some ⟨w.heap.size, 0, none⟩) n c).ownBlock = some k → ¬ D k := fun _ k hk => by
  simp [Value.ownBlock] at hk
  exact h.fresh k (by omega)
end


end Go.Proofs.Ytoabpjdpdcpdlaa
