/- One block alone changes. Our own lemmas (as in WireOwn); no statement of the seat is proved here. -/
import Derived.Test.YtobgmbfoofkdeaaDoorBase06
import Derived.Test.YtobgmbfoofkdeaaDoorBase00
namespace Go.Proofs.YtobgmbfoofkdeaaDoor
open Go.RowKit Go.Lib

/-- One block alone has changed. -/
structure Only (g : Nat) (A B : World) : Prop where
  os : B.os = A.os
  tape : B.tape = A.tape
  output : B.output = A.output
  size : B.heap.size = A.heap.size
  block : ∀ k, k ≠ g → B.heap[k]? = A.heap[k]?
theorem Only.refl (g : Nat) (A : World) : Only g A A := ⟨rfl, rfl, rfl, rfl, fun _ _ => rfl⟩
theorem Only.set {g : Nat} {A B : World} (h : Only g A B) {p : Addr} (hp : p.block = g) (v : Value) : Only g A (B.setCell p v) :=
  ⟨h.os, h.tape, h.output, by simpa [World.setCell] using h.size, fun k hk => (Below.heap_setCell _ _ _ _ (by rw [hp]; exact hk)).trans (h.block k hk)⟩
theorem Only.below {g n : Nat} {A B : World} (h : Only g A B) (hg : n ≤ g) : Below n A B := ⟨h.os, h.tape, h.output, Nat.le_of_eq h.size.symm, fun k hk => h.block k (by omega)⟩
theorem Only.bytes {g : Nat} {A B : World} (h : Only g A B) {u : Value} {bs : List UInt8} (hb : Bytes A u bs) (hne : ∀ k, u.ownBlock = some k → k ≠ g) : Bytes B u bs := hb.kept fun k hk _ => h.block k (hne k hk)

theorem xor255 (x : UInt8) : bits .xor .u8 ((x.toNat : Nat) : Int) 255 = (((UInt8.ofNat (x.toNat ^^^ 255)).toNat : Nat) : Int) := by
  have hx := x.toNat_lt
  have hl : x.toNat ^^^ 255 < 256 := Nat.xor_lt_two_pow (n := 8) (by omega) (by omega)
  rw [u8_toNat hl]
  exact u8_xor_nat x.toNat 255 (by omega) (by omega)
theorem own_form {w W : World} {v : Value} {bs : List UInt8} (h : Own w v bs W) (hne : 0 < bs.length) : ∃ g c, v = .slice (some ⟨g, 0, none⟩) bs.length c ∧ bs.length ≤ c ∧ w.heap.size ≤ g ∧ g < W.heap.size := by
  rcases h.own.2 with ⟨_, hn⟩ | ⟨g, cap, cur, hv, _, hg, h1, _⟩
  · omega
  · exact ⟨g, cap, hv, h1, h.new g (by rw [hv]; rfl), (Array.getElem?_eq_some_iff.1 hg).1⟩
/-- A byte of a row of ours, read and written. -/
theorem row_turn {W : World} {g n c : Nat} {bs : List UInt8} (h : W.ownsRow 0 5 1 (.slice (some ⟨g, 0, none⟩) n c) bs.length (bs.map bv)) (hl : bs.length = n) {k : Nat} (hk : k < n) :
    ∃ x : UInt8, W.cell? ⟨g, k, none⟩ = some (.int .u8 ((x.toNat : Nat) : Int)) ∧ W.frozen? ⟨g, k, none⟩ = false ∧ ∃ bs' : List UInt8, bs'.length = n ∧ (W.setCell ⟨g, k, none⟩ (.int .u8 (((UInt8.ofNat (x.toNat ^^^ 255)).toNat : Nat) : Int))).ownsRow 0 5 1 (.slice (some ⟨g, 0, none⟩) n c) bs'.length (bs'.map bv) := by
  obtain ⟨b, e, hc, hf, hs⟩ := own_at h hl hk
  simp only [Option.some.injEq, Addr.mk.injEq, and_true] at e
  subst e
  exact ⟨_, hc, hf, bs.set k (UInt8.ofNat ((bs.getD k 0).toNat ^^^ 255)), by rw [List.length_set, hl], hs _⟩

end Go.Proofs.YtobgmbfoofkdeaaDoor
