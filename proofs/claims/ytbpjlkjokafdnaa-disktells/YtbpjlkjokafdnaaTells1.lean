/- DiskTells: what its loops keep. No statement of the seat is proved here. -/
import Derived.Test.YtbpjlkjokafdnaaTwin8
import Derived.Test.YtbpjlkjokafdnaaAwake
namespace Go.Proofs.Ytbpjlkjokafdnaa
open Go.RowKit

/-- An op in memory: its eight cells from o on, its bytes. -/
def OpAt (w : World) (b o : Nat) : Prop := ∃ wh sg nn k0 k1 k2 k3 a n c bs, w.rangeAt b o [.int .u8 wh, .int .i64 sg, .int .i64 nn, .slice a n c, .int .i64 k0, .int .i64 k1, .int .i64 k2, .int .i64 k3] ∧ Bytes w (.slice a n c) bs ∧ (0 ≤ wh ∧ wh < 256) ∧ nn ≤ 9223372036854775807
/-- A row of ops. -/
def OpsAt (w : World) (la : Option Addr) (ln : Nat) : Prop := ln = 0 ∨ ∃ b o, la = some ⟨b, o, none⟩ ∧ ∀ i, i < ln → OpAt w b (o + 8 * i)

/-- Two slices of their own beside both disks. -/
structure IN (w0 : World) (p q : Nat) (r1 r2 : Value) (b1 b2 : List UInt8) (cs : Array Value) (A : AD) (W : World) : Prop where
  tw : TW w0 p q (fun b => r1.ownBlock = some b ∨ r2.ownBlock = some b) cs A A W
  o1 : W.ownsRow 0 5 1 r1 b1.length (b1.map bv)
  o2 : W.ownsRow 0 5 1 r2 b2.length (b2.map bv)
  apart : ∀ b, r1.ownBlock = some b → r2.ownBlock ≠ some b

section
variable {w0 W W' : World} {p q : Nat} {r1 r2 : Value} {b1 b2 : List UInt8} {cs : Array Value} {A : AD}

theorem IN.later (h : IN w0 p q r1 r2 b1 b2 cs A W) (hb : Below W.heap.size W W') : IN w0 p q r1 r2 b1 b2 cs A W' :=
  ⟨h.tw.later hb, own_keeps h.o1 fun k hk => hb.block k (h.tw.lt k (.inl hk)), own_keeps h.o2 fun k hk => hb.block k (h.tw.lt k (.inr hk)), h.apart⟩

theorem IN.start (h : TW w0 p q (fun _ => False) cs A A W) {W1 W2 : World} (h1 : FreshO W W1 r1 b1) (h2 : FreshO W1 W2 r2 b2) : IN w0 p q r1 r2 b1 b2 cs A W2 := by
  have e1 := h1.1.2.2
  have e2 := h2.1.2.2
  have s1 := e1.size
  have s2 := e2.size
  refine ⟨h.grow (e1.trans (e2.mono s1)) _ fun b hb => .inr ?_, own_keeps h1.2 fun k hk => e2.block k (h1.1.2.1 k hk).2, h2.2, fun b hb hb2 => ?_⟩
  · rcases hb with hb | hb
    · have := h1.1.2.1 b hb; omega
    · have := h2.1.2.1 b hb; omega
  · have := h1.1.2.1 b hb
    have := h2.1.2.1 b hb2
    omega

theorem IN.at1 {a : Option Addr} {n c : Nat} (h : IN w0 p q (.slice a n c) r2 b1 b2 cs A W) (hl : b1.length = n) {k : Nat} (hk : k < n) : ∃ b x, a = some ⟨b, 0, none⟩ ∧ 0 ≤ x ∧ x < 256 ∧ W.cell? ⟨b, k, none⟩ = some (.int .u8 x) ∧ W.frozen? ⟨b, k, none⟩ = false ∧
    ∀ y : Int, 0 ≤ y → y < 256 → ∃ b1', b1'.length = n ∧ IN w0 p q (.slice a n c) r2 b1' b2 cs A (W.setCell ⟨b, k, none⟩ (.int .u8 y)) := by
  obtain ⟨b, x, rfl, h0, h1, hc, hf, hs⟩ := own_at h.o1 hl hk
  refine ⟨b, x, rfl, h0, h1, hc, hf, fun y hy0 hy1 => ⟨_, by rw [List.length_set]; exact hl, ⟨h.tw.scratch (.inl rfl) _ k, hs y hy0 hy1, own_keeps h.o2 fun k' hk' => Below.heap_setCell _ _ _ _ (fun e => h.apart b rfl (by rw [hk', e])), h.apart⟩⟩⟩

theorem IN.at2 {a : Option Addr} {n c : Nat} (h : IN w0 p q r1 (.slice a n c) b1 b2 cs A W) (hl : b2.length = n) {k : Nat} (hk : k < n) : ∃ b x, a = some ⟨b, 0, none⟩ ∧ 0 ≤ x ∧ x < 256 ∧ W.cell? ⟨b, k, none⟩ = some (.int .u8 x) ∧ W.frozen? ⟨b, k, none⟩ = false ∧
    ∀ y : Int, 0 ≤ y → y < 256 → ∃ b2', b2'.length = n ∧ IN w0 p q r1 (.slice a n c) b1 b2' cs A (W.setCell ⟨b, k, none⟩ (.int .u8 y)) := by
  obtain ⟨b, x, rfl, h0, h1, hc, hf, hs⟩ := own_at h.o2 hl hk
  refine ⟨b, x, rfl, h0, h1, hc, hf, fun y hy0 hy1 => ⟨_, by rw [List.length_set]; exact hl, ⟨h.tw.scratch (.inr rfl) _ k, own_keeps h.o1 fun k' hk' => Below.heap_setCell _ _ _ _ (fun e => h.apart k' hk' (by rw [e]; rfl)), hs y hy0 hy1, h.apart⟩⟩⟩
end

theorem rd_len {A : AD} (h : A.Ok) (s : Int) : (rd A s).length ≤ 1048576 := by
  have h1 := h.room
  have h2 := h.cap
  unfold rd
  split
  · simp
  · rename_i hn
    obtain ⟨i, hi, rfl⟩ := seg_of (fun h => hn (.inr h))
    rw [Int.toNat_natCast]
    rcases (show i = 0 ∨ i = 1 by omega) with rfl | rfl <;> omega
theorem hd_len {A : AD} (h : A.Ok) (s : Int) : (hdOf A s).length ≤ 32 := by
  unfold hdOf
  split
  · simp
  · rename_i hn
    obtain ⟨i, hi, rfl⟩ := seg_of (fun h => hn (.inr h))
    rw [Int.toNat_natCast, h.sh i hi]
    exact Nat.le_refl _

/-- Both disks as they are made. -/
theorem TW.start {w w1 w2 : World} {c : Int} {cs z : Array Value} {p q : Nat} {v : Nat → Value} (hp : p = w.heap.size) (hq : q = w2.heap.size) (hD : DiskIs w1 p (fun k => k = p) v (AD.new c)) (hs1 : w1.heap.size = p + 1) (hb1 : Below p w w1) (hV : RefV w2 (fun b => w1.heap.size ≤ b) (AD.new c) cs) (hb2 : Below w1.heap.size w1 w2) :
    TW w p q (fun _ => False) cs (AD.new c) (AD.new c) ((w2.alloc (.cells z 33)).setRow q cs) := by
  have s2 := hb2.size
  have hr : (w2.alloc (.cells z 33)).heap[q]? = some (.cells z 33 (0, 0)) := by rw [hq]; exact heap_alloc_new w2 _
  have hk : ∀ b, b < w2.heap.size → ((w2.alloc (.cells z 33)).setRow q cs).heap[b]? = w2.heap[b]? := fun b hb => by rw [setRow_other _ _ _ _ (by omega), Below.heap_alloc _ _ _ hb]
  have hsz : ((w2.alloc (.cells z 33)).setRow q cs).heap.size = w2.heap.size + 1 := by simp [World.setRow]
  refine ⟨fun k => k = p, v, hD.kept (by omega) fun k hk' => ?_, fun k hk' => ?_, ?_, by omega, setRow_heap _ _ _ _ _ _ hr, hV.move fun b hlt hb => ⟨hk b hlt, ?_, by omega, fun h => h⟩, fun b h => h.elim, ?_⟩
  · have e : k = p := hk'
    rw [hk k (by omega), hb2.block k (by omega)]
  · have e : k = p := hk'
    omega
  · show ¬ q = p; omega
  · show ¬ b = p; omega
  · refine below_setRow (Below.alloc (Below.trans (hp ▸ hb1) (hb2.mono (by omega))) (by omega) _) (by omega) _
end Go.Proofs.Ytbpjlkjokafdnaa
