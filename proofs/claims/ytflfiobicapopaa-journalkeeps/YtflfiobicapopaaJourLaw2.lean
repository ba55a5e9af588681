/- A journal along a walk beside a blow. No statement of the seat is proved here. -/
import Derived.Test.YtflfiobicapopaaJourBlow
import Derived.Test.YtflfiobicapopaaBase14
namespace Go.Proofs.Ytflfiobicapopaa
open Go.RowKit

section
variable {w W W' : World} {L : List (Value × Thing)} {M : List (Nat × Obj)} {p g gb : Nat} {A : AD} {h : HeadD} {l : List (List (List UInt8))} {x : BlowD}
theorem Jr.new (H : Jr w W L M g p A h l) (o : Obj) : Jr w (W.alloc o) L ((W.heap.size, o) :: M) g p A h l := ⟨(H.kj.new o).perm (List.Perm.swap _ _ _), H.run⟩
theorem Jr.noM (H : Jr w W L M g p A h l) : Jr w W L [] g p A h l := ⟨H.kj.sub (List.Sublist.cons_cons _ (List.nil_sublist _)), H.run⟩
theorem Jr.noL (H : Jr w W L M g p A h l) : Jr w W [] M g p A h l := H.lessL (fun q hq => by cases hq)
theorem Kj.blow {t : TypeId} (H : Kj w W L M p A) (hm : (gb, Obj.cells x.vals t (0, 0)) ∈ M) :
    W.cell? ⟨gb, 0, none⟩ = some (.slice x.sa x.sn x.sc) ∧ W.cell? ⟨gb, 1, none⟩ = some (.bool x.turn) ∧ W.cell? ⟨gb, 2, none⟩ = some (.bool x.crash) ∧ W.cell? ⟨gb, 3, none⟩ = some (.int .u8 ((x.at' : Nat) : Int)) ∧ W.cell? ⟨gb, 4, none⟩ = some (.int .u8 ((x.part : Nat) : Int)) ∧
    W.cell? ⟨gb, 5, none⟩ = some (.int .i64 x.k0) ∧ W.cell? ⟨gb, 6, none⟩ = some (.int .i64 x.k1) ∧ W.cell? ⟨gb, 7, none⟩ = some (.int .i64 x.k2) ∧ W.cell? ⟨gb, 8, none⟩ = some (.int .i64 x.k3) ∧ W.cell? ⟨gb, 9, none⟩ = some (.int .u8 ((x.again : Nat) : Int)) ∧
    W.cell? ⟨gb, 10, none⟩ = some (.int .i64 x.o0) ∧ W.cell? ⟨gb, 11, none⟩ = some (.int .i64 x.o1) ∧ W.cell? ⟨gb, 12, none⟩ = some (.int .i64 x.o2) ∧ W.cell? ⟨gb, 13, none⟩ = some (.int .i64 x.o3) := blow_block (H.ce _ hm)
theorem Jr.blow {t : TypeId} (H : Jr w W L [(gb, Obj.cells x.vals t (0, 0))] g p A h l) :
    W.cell? ⟨gb, 0, none⟩ = some (.slice x.sa x.sn x.sc) ∧ W.cell? ⟨gb, 1, none⟩ = some (.bool x.turn) := by
  obtain ⟨a, b, _⟩ := H.kj.blow (gb := gb) (x := x) (t := t) (List.mem_cons_of_mem _ (List.mem_cons_self ..))
  exact ⟨a, b⟩
theorem Jr.rowsB (H : Jr w W L M g p A h l) {u : Value} {rows : List (List UInt8)} (hr : RowsAt w u rows) : RowsAt W u rows := hr.later H.kj.bb
/-- A copy of a row. -/
theorem jrAnew (H : Jr w W L M g p A h l) (a : Option Addr) (n c : Nat) (bs : List UInt8) (hm : (.slice a n c, Thing.bytes bs) ∈ L) (hl : bs.length ≤ 1048576) :
    Calls Try.prog 27 #[.slice a n c] W fun e W' => ∃ b d, e = .returned (.slice b bs.length d) ∧ Jr w W' ((.slice b bs.length d, Thing.bytes bs) :: L) M g p A h l := by
  refine (low_anew _ bs _ (H.kj.byt hm) hl).mono ?_
  rintro x W' ⟨r, rfl, hF⟩
  obtain ⟨b, d, rfl, _⟩ := hF.1.1.form
  exact ⟨b, d, rfl, H.kj.add hF.1.2.2 _ _ fun F _ _ _ => ⟨hF.1.1, fun _ k hk => .inr (hF.1.2.1 k hk)⟩, H.run⟩
/-- What is in the segment that counts. -/
theorem jrRead (H : Jr w W L M g p A h l) : Calls Try.prog 24 #[.pointer (some ⟨p, 0, none⟩), .int .i64 ((h.l : Nat) : Int)] W fun x W' => ∃ a c, x = .returned (.slice a (bputs l).length c) ∧ Jr w W' ((.slice a (bputs l).length c, Thing.bytes (bputs l)) :: L) M g p A h l := by
  refine (kjRead H.kj h.l H.l2).mono ?_
  rintro x W' ⟨a, c, rfl, hk⟩
  rw [H.run.size] at hk ⊢
  exact ⟨a, c, rfl, hk, H.run⟩
end
end Go.Proofs.Ytflfiobicapopaa
