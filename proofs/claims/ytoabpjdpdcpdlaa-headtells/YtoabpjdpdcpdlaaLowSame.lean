/- What the statements' own helper Same (foremanlow) does. No statement of the seat is proved here. -/
import Derived.Test.YtoabpjdpdcpdlaaGenOwn
import Derived.Test.YtoabpjdpdcpdlaaGen
namespace Go.Proofs.Ytoabpjdpdcpdlaa
open Go.RowKit

set_option maxHeartbeats 400000 in
theorem low_same (u1 u2 : Value) (b1 b2 : List UInt8) (w : World) (h1 : Bytes w u1 b1) (h2 : Bytes w u2 b2) : Calls Try.prog 16 #[u1, u2] w fun e w' => e = .returned (.bool (decide (b1 = b2))) ∧ w' = w := by
  have c1 := run_convert_bytes (P := Try.prog) w 25 9 5 Try.underlying25 Try.underlying5 Try.underlying9 u1 b1 h1
  have c2 := run_convert_bytes (P := Try.prog) w 25 9 5 Try.underlying25 Try.underlying5 Try.underlying9 u2 b2 h2
  have e0 : ((⟨b1.toArray⟩ : ByteArray).toList == (⟨b2.toArray⟩ : ByteArray).toList) = decide (b1 = b2) := by
    rw [ByteArray.toList_eq, ByteArray.toList_eq, Bool.eq_iff_iff]; simp
  have HE : Hid (((⟨b1.toArray⟩ : ByteArray).toList == (⟨b2.toArray⟩ : ByteArray).toList) = decide (b1 = b2)) := e0
  clear e0 h1 h2
  generalize (⟨b1.toArray⟩ : ByteArray) = s1 at *
  generalize (⟨b2.toArray⟩ : ByteArray) = s2 at *
  go_enter Try.func16, Try.ntmps16
  go_wp2
  go_ret
  exact ⟨ret_bool HE.out, rfl⟩

end Go.Proofs.Ytoabpjdpdcpdlaa

namespace Go.Proofs.Ytoabpjdpdcpdlaa
open Go.RowKit

/-- A world in which all that was there in w0 is as it was. -/
def Later (w0 : World) := { W : World // Below w0.heap.size w0 W }
/-- The class of these worlds. -/
def IsLater (w0 : World) : World → Prop := fun W => ∃ x : Later w0, W = x.1
theorem Later.cell {w0 : World} {p : Addr} {v : Value} (h : w0.cell? p = some v) (x : Later w0) : x.1.cell? p = some v := (x.2.cell (World.block_lt_of_cell? _ _ h)).trans h
theorem Later.bytes {w0 : World} {u : Value} {bs : List UInt8} (h : Bytes w0 u bs) (x : Later w0) : Bytes x.1 u bs := h.kept fun k _ hk => x.2.block k hk
theorem Later.then {w0 : World} (x : Later w0) {W : World} (hb : Below x.1.heap.size x.1 W) : ∃ y : Later w0, W = y.1 := ⟨⟨W, x.2.trans (hb.mono x.2.size)⟩, rfl⟩
theorem Later.same {w0 : World} (x : Later w0) {W : World} (e : W = x.1) : ∃ y : Later w0, W = y.1 := ⟨x, e⟩
theorem wp_region_later {id : Nat} {Q : Exit → Act → World → Prop} {a : Act} {w : World} {l : List Oper} (hB : Region.lexB .any l.toArray = true)
    (h : wpQuiet Try.prog l.toArray (fun W => ∃ x : Later w, W = x.1) (fun a' => ∀ w', (∃ x : Later w, w' = x.1) → Q .normal a' w') l a) : (Code.region id l.toArray true).wp Try.prog Q a w :=
  wp_region_quiet (C := fun W => ∃ x : Later w, W = x.1) (by kernel_rfl) hB ⟨⟨_, (Below.refl _ w).drew⟩, rfl⟩ (by simpa using h)
end Go.Proofs.Ytoabpjdpdcpdlaa
