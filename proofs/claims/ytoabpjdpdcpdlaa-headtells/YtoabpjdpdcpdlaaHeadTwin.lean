/- Save of the document's head (foremanref05) upon the document's disk. No statement of the seat is proved here. -/
import Derived.Test.YtoabpjdpdcpdlaaHeadDisk
import Derived.Test.YtoabpjdpdcpdlaaTwin4
import Derived.Deep.RegionLaw
import Derived.Test.YtoabpjdpdcpdlaaHeadOk
namespace Go.Proofs.Ytoabpjdpdcpdlaa
open Go.RowKit

theorem Z_write (A : AD) (hok : A.Ok) (i : Nat) (hi : i < 2) (bs : List UInt8) (h32 : bs.length = 32) : RefB 38 A (wrA A i bs) (chE A) ((i : Nat) : Int) bs := by
  cases hd : A.dead
  rotate_left
  · have e1 : chE A = 3 := by simp [chE, hd]
    have e2 : wrA A i bs = A := by simp [wrA, hd]
    rw [e1, e2]
    intro w B cs a m q hV _ hu
    have hV0 := hV
    obtain ⟨c, P, N, C, bf, n, k, d, x, rfl, hB, hA⟩ := hV
    obtain rfl : d = true := hA.dead.trans hd
    exact (ref_write_dead c P N C bf n k w i a m q).mono fun e w' ⟨he, hb⟩ => ⟨_, he, hV0.later hb, hb⟩
  by_cases hc : A.calls = 0
  · have e1 : chE A = 3 := by simp [chE, hd, hc]
    have e2 : wrA A i bs = { A with dead := true } := by simp [wrA, hd, hc]
    rw [e1, e2]
    intro w B cs a m q hV hfr hu
    obtain ⟨hbl, hmq⟩ := bytes_len hu
    obtain rfl : m = 32 := by omega
    obtain ⟨c, P, N, C, bf, n, k, d, x, rfl, hB, hA⟩ := hV
    obtain rfl : d = false := hA.dead.trans hd
    obtain ⟨hk, rfl, rfl, hkk⟩ := kills_dead (c := c) (P := P) (N := N) (C := C) hA.fuse hc
    refine (rWrite_kill c P N C true 0 k w i hi a q 0 hk).mono ?_
    rintro e w' ⟨he, hb⟩
    exact ⟨_, he, ⟨c, _, _, _, true, 0, k, true, _, rfl, hB.later hb, hA.same (A1 := { A with dead := true }) rfl rfl rfl rfl rfl (.inr ⟨rfl, hc.symm, by show 0 ≤ A.calls; omega, hkk⟩) rfl⟩, hb⟩
  · have e1 : chE A = 0 := by simp [chE, hd, hc]
    have e2 : wrA A i bs = A.tick.wrote i bs := by simp [wrA, hd, hc]
    rw [e1, e2]
    intro w B cs a m q hV hfr hu
    obtain ⟨hbl, hmq⟩ := bytes_len hu
    obtain rfl : m = 32 := by omega
    obtain ⟨c, P, N, C, bf, n, k, d, x, rfl, hB, hA⟩ := hV
    obtain rfl : d = false := hA.dead.trans hd
    obtain ⟨n', hk, hf⟩ := kills_alive (c := c) (P := P) (N := N) (C := C) hA.fuse hc hok.calls.2
    refine (rWrite_ok c P N C bf n k w i hi n' hk a q bs hu h32).mono ?_
    rintro e w' ⟨ra, rc, he, h1, h2, hb⟩
    exact ⟨_, he, ⟨c, _, _, _, bf, n', k, false, _, rfl, (hB.later hb).put _ h1 (fun _ b hbb => hfr b (h2 b hbb)), hA.write (A1 := A.tick.wrote i bs) i hi bs h32 rfl rfl rfl rfl rfl hf hd.symm⟩, hb⟩

theorem Z_syncHead (A : AD) (hok : A.Ok) : RefZ 39 A (shA A) (chE A) := by
  cases hd : A.dead
  rotate_left
  · have e1 : chE A = 3 := by simp [chE, hd]
    have e2 : shA A = A := by simp [shA, hd]
    rw [e1, e2]
    intro w B cs hV _
    have hV0 := hV
    obtain ⟨c, P, N, C, bf, n, k, d, x, rfl, hB, hA⟩ := hV
    obtain rfl : d = true := hA.dead.trans hd
    exact (ref_syncHead_dead c P N C bf n k w).mono fun e w' ⟨he, hb⟩ => ⟨_, he, hV0.later hb, hb⟩
  by_cases hc : A.calls = 0
  · have e1 : chE A = 3 := by simp [chE, hd, hc]
    have e2 : shA A = { A with dead := true } := by simp [shA, hd, hc]
    rw [e1, e2]
    intro w B cs hV hfr
    obtain ⟨c, P, N, C, bf, n, k, d, x, rfl, hB, hA⟩ := hV
    obtain rfl : d = false := hA.dead.trans hd
    obtain ⟨hk, rfl, rfl, hkk⟩ := kills_dead (c := c) (P := P) (N := N) (C := C) hA.fuse hc
    refine (ref_syncHead_kill c P N C true 0 k w 0 hk).mono ?_
    rintro e w' ⟨he, hb⟩
    exact ⟨_, he, ⟨c, _, _, _, true, 0, k, true, _, rfl, hB.later hb, hA.same (A1 := { A with dead := true }) rfl rfl rfl rfl rfl (.inr ⟨rfl, hc.symm, by show 0 ≤ A.calls; omega, hkk⟩) rfl⟩, hb⟩
  · have e1 : chE A = 0 := by simp [chE, hd, hc]
    have e2 : shA A = A.tick.syncedHead := by simp [shA, hd, hc]
    rw [e1, e2]
    intro w B cs hV hfr
    obtain ⟨c, P, N, C, bf, n, k, d, x, rfl, hB, hA⟩ := hV
    obtain rfl : d = false := hA.dead.trans hd
    obtain ⟨n', hk, hf⟩ := kills_alive (c := c) (P := P) (N := N) (C := C) hA.fuse hc hok.calls.2
    obtain ⟨i0, hh0, hl0, hx0⟩ := head_of hA hok (fun j hj => hB.len j hj) 0 (by omega)
    obtain ⟨i1, hh1, hl1, hx1⟩ := head_of hA hok (fun j hj => hB.len j hj) 1 (by omega)
    refine (ref_syncHead_ok c P N C bf n k w n' hk i0 i1 hh0 hh1).mono ?_
    rintro e w' ⟨he, hb⟩
    have hB' := hB.later hb
    have g0 := hB' i0 hl0
    have g1 := hB' i1 hl1
    have hB2 := (((hB'.put 4 g0.1 g0.2).nil 5).put 6 g1.1 g1.2).nil 7
    rw [hx0, hx1] at hB2
    exact ⟨_, he, ⟨c, _, _, _, bf, n', k, false, _, rfl, hB2, hA.syncHead (A1 := A.tick.syncedHead) rfl rfl rfl rfl rfl hf hd.symm⟩, hb⟩

/-- What is kept along the document's Save. -/
structure SvR (w : World) (B : Nat → Prop) (t e l : Nat) (W : World) (cs : Array Value) (A : AD) : Prop where
  ref : RefV W (fun b => B b ∧ (b < w.heap.size ∨ w.heap.size + 4 ≤ b)) A cs
  bb : Below w.heap.size w W
  sz : w.heap.size + 4 ≤ W.heap.size
  d : W.heap[w.heap.size]? = some (.cells cs 43 (0, 0))
  hd : W.heap[w.heap.size + 1]? = some (.cells #[.int .u64 ((t : Nat) : Int), .int .u64 ((e : Nat) : Int), .int .u8 ((l : Nat) : Int)] 24 (0, 0))
  rd : ∃ z : Array Value, z.size = 13 ∧ W.heap[w.heap.size + 1 + 1]? = some (.cells z 43 (0, 0))
  rh : W.heap[w.heap.size + 1 + 1 + 1]? = some (.cells #[.int .u64 0, .int .u64 0, .int .u8 0] 24 (0, 0))
section
variable {w W W' : World} {B : Nat → Prop} {t e l : Nat} {cs cs' : Array Value} {A A' : AD}
theorem SvR.later (h : SvR w B t e l W cs A) (hb : Below W.heap.size W W') : SvR w B t e l W' cs A := by
  have hs := h.sz
  obtain ⟨z, h1, h2⟩ := h.rd
  exact ⟨h.ref.later hb, h.bb.trans (hb.mono h.bb.size), Nat.le_trans hs hb.size, (hb.block _ (by omega)).trans h.d, (hb.block _ (by omega)).trans h.hd, ⟨z, h1, (hb.block _ (by omega)).trans h2⟩, (hb.block _ (by omega)).trans h.rh⟩
theorem SvR.new (h : SvR w B t e l W cs A) (hB : ∀ b, w.heap.size ≤ b → B b) : ∀ b, W.heap.size ≤ b → B b ∧ (b < w.heap.size ∨ w.heap.size + 4 ≤ b) := fun b hb => by
  have := h.sz
  exact ⟨hB b (by omega), .inr (by omega)⟩
/-- What a call answered is stored. -/
theorem SvR.put (h : SvR w B t e l W cs A) (hb : Below W.heap.size W W') (hV : RefV W' (fun b => B b ∧ (b < w.heap.size ∨ w.heap.size + 4 ≤ b)) A' cs') : SvR w B t e l (W'.setRow w.heap.size cs') cs' A' := by
  have h' := h.later hb
  have hs := h'.sz
  obtain ⟨z, h1, h2⟩ := h'.rd
  refine ⟨hV.kept fun b hlt hbb => setRow_other _ _ _ _ (by omega), h'.bb.trans ⟨rfl, rfl, rfl, by simp, fun k hk => setRow_other _ _ _ _ (by omega)⟩, by simpa using hs, setRow_heap _ _ _ _ _ _ h'.d, ?_, ⟨z, h1, ?_⟩, ?_⟩
  · rw [setRow_other _ _ _ _ (by omega)]; exact h'.hd
  · rw [setRow_other _ _ _ _ (by omega)]; exact h2
  · rw [setRow_other _ _ _ _ (by omega)]; exact h'.rh
theorem SvR.size (h : SvR w B t e l W cs A) : (Try.prog.info? 43).map (·.size) = some cs.size := by rw [h.ref.shape.1]; kernel_rfl
theorem RefV.size {W : World} {B : Nat → Prop} {cs : Array Value} {A : AD} (h : RefV W B A cs) : (Try.prog.info? 43).map (·.size) = some cs.size := by rw [h.shape.1]; kernel_rfl
end
end Go.Proofs.Ytoabpjdpdcpdlaa

namespace Go.Proofs.Ytoabpjdpdcpdlaa
open Go.RowKit

/-- A whole struct, read and stored in a region that draws its order. -/
theorem step_load_row {P : Program} {ops : Array Oper} {op : Oper} {a : Act} {w : World} {K : Act → World → Prop} {Q : Exit → Act → World → Prop} {E : Prop} (hgd : op.guard = none) (ty : TypeId) (x : Operand) (ho : op.op = .load ty x)
    (g : Nat) (hx : a.eval x = .pointer (some ⟨g, 0, none⟩)) (t : TypeId) (cs : Array Value) (fr : Nat × Nat) (d : TypeDesc) (hg : w.heap[g]? = some (.cells cs t fr))
    (hu : P.underlying ty = some d) (hd : (match d with | .struct _ | .array _ _ => true | _ => false) = true) (hi : (P.info? ty).map (·.size) = some cs.size)
    (h : K (a.put op.dst (.agg cs)) w) : if Region.wanted op (yielded ops a.tmps) = true then Oper.wp P op a w K Q else E := by
  have hw : Region.wanted op (yielded ops a.tmps) = true := by simp [Region.wanted, hgd]
  rw [if_pos hw]
  exact wp_load_row ty x ho g hx t cs fr d hg hu hd hi h
theorem step_store_row {P : Program} {ops : Array Oper} {op : Oper} {a : Act} {w : World} {K : Act → World → Prop} {Q : Exit → Act → World → Prop} {E : Prop} (hgd : op.guard = none) (ty : TypeId) (x y : Operand) (ho : op.op = .store ty x y)
    (g : Nat) (cells : Array Value) (hx : a.eval x = .pointer (some ⟨g, 0, none⟩)) (hy : a.eval y = .agg cells)
    (t : TypeId) (old : Array Value) (hg : w.heap[g]? = some (.cells old t (0, 0))) (hi : (P.info? ty).map (·.size) = some cells.size)
    (hold : old.size = cells.size) (h1 : cells.all (·.oneCell') = true)
    (h : K (a.put op.dst undef) (w.setRow g cells)) : if Region.wanted op (yielded ops a.tmps) = true then Oper.wp P op a w K Q else E := by
  have hw : Region.wanted op (yielded ops a.tmps) = true := by simp [Region.wanted, hgd]
  rw [if_pos hw]
  exact wp_store_row ty x y ho g cells hx hy t old hg hi hold h1 h

/-- Two structs in cells and a number in a slot are handed back. -/
theorem results_cct {P : Program} {fn : Func} {p p2 u : Tmp} {ty ty2 : TypeId} (h : fn.results = #[.cell p ty, .cell p2 ty2, .tmp u]) (tmps : Array Value) (w : World) (g g2 : Nat) (t t2 : TypeId) (cs cs2 : Array Value) (fr fr2 : Nat × Nat) (d d2 : TypeDesc)
    (hp : tmps.getD p undef = .pointer (some ⟨g, 0, none⟩)) (hg : w.heap[g]? = some (.cells cs t fr))
    (hu : P.underlying ty = some d) (hd : (match d with | .struct _ | .array _ _ => true | _ => false) = true) (hi : (P.info? ty).map (·.size) = some cs.size)
    (hp2 : tmps.getD p2 undef = .pointer (some ⟨g2, 0, none⟩)) (hg2 : w.heap[g2]? = some (.cells cs2 t2 fr2))
    (hu2 : P.underlying ty2 = some d2) (hd2 : (match d2 with | .struct _ | .array _ _ => true | _ => false) = true) (hi2 : (P.info? ty2).map (·.size) = some cs2.size) :
    (results fn tmps).run P w = .ok (.tuple #[.agg cs, .agg cs2, tmps.getD u undef]) w := by
  have hp' : tmps[p]?.getD undef = .pointer (some ⟨g, 0, none⟩) := by simpa using hp
  have hp2' : tmps[p2]?.getD undef = .pointer (some ⟨g2, 0, none⟩) := by simpa using hp2
  simp only [results, h]
  simp [Result.andThen, hp', hp2', asAddr, run_loadVar_row w g t ty cs fr d hg hu hd hi, run_loadVar_row w g2 t2 ty2 cs2 fr2 d2 hg2 hu2 hd2 hi2]

/-- What is handed back at the end: the disk in its block, a head in its own. -/
theorem SvR.shut {w W : World} {B : Nat → Prop} {t e l : Nat} {cs : Array Value} {A : AD} (h : SvR w B t e l W cs A) (x y z : Value) :
    ((((W.setRow (w.heap.size + 1 + 1) cs).setCell ⟨w.heap.size + 1 + 1 + 1, 0, none⟩ x).setCell ⟨w.heap.size + 1 + 1 + 1, 1, none⟩ y).setCell ⟨w.heap.size + 1 + 1 + 1, 2, none⟩ z).heap[w.heap.size + 1 + 1]? = some (.cells cs 43 (0, 0)) ∧ ((((W.setRow (w.heap.size + 1 + 1) cs).setCell ⟨w.heap.size + 1 + 1 + 1, 0, none⟩ x).setCell ⟨w.heap.size + 1 + 1 + 1, 1, none⟩ y).setCell ⟨w.heap.size + 1 + 1 + 1, 2, none⟩ z).heap[w.heap.size + 1 + 1 + 1]? = some (.cells #[x, y, z] 24 (0, 0)) ∧
    RefV ((((W.setRow (w.heap.size + 1 + 1) cs).setCell ⟨w.heap.size + 1 + 1 + 1, 0, none⟩ x).setCell ⟨w.heap.size + 1 + 1 + 1, 1, none⟩ y).setCell ⟨w.heap.size + 1 + 1 + 1, 2, none⟩ z) B A cs ∧ Below w.heap.size w ((((W.setRow (w.heap.size + 1 + 1) cs).setCell ⟨w.heap.size + 1 + 1 + 1, 0, none⟩ x).setCell ⟨w.heap.size + 1 + 1 + 1, 1, none⟩ y).setCell ⟨w.heap.size + 1 + 1 + 1, 2, none⟩ z) := by
  obtain ⟨zz, h1, h2⟩ := h.rd
  have e1 : (W.setRow (w.heap.size + 1 + 1) cs).heap[w.heap.size + 1 + 1 + 1]? = some (.cells #[.int .u64 0, .int .u64 0, .int .u8 0] 24 (0, 0)) := by rw [setRow_other _ _ _ _ (by omega)]; exact h.rh
  have ot : ∀ k, k ≠ w.heap.size + 1 + 1 + 1 → ((((W.setRow (w.heap.size + 1 + 1) cs).setCell ⟨w.heap.size + 1 + 1 + 1, 0, none⟩ x).setCell ⟨w.heap.size + 1 + 1 + 1, 1, none⟩ y).setCell ⟨w.heap.size + 1 + 1 + 1, 2, none⟩ z).heap[k]? = (W.setRow (w.heap.size + 1 + 1) cs).heap[k]? := fun k hk => by
    rw [Below.heap_setCell _ _ _ _ hk, Below.heap_setCell _ _ _ _ hk, Below.heap_setCell _ _ _ _ hk]
  refine ⟨?_, set3_heap e1 x y z, ?_, ?_⟩
  · rw [ot _ (by omega)]; exact setRow_heap _ _ _ _ _ _ h2
  · have hV : RefV ((((W.setRow (w.heap.size + 1 + 1) cs).setCell ⟨w.heap.size + 1 + 1 + 1, 0, none⟩ x).setCell ⟨w.heap.size + 1 + 1 + 1, 1, none⟩ y).setCell ⟨w.heap.size + 1 + 1 + 1, 2, none⟩ z) (fun b => B b ∧ (b < w.heap.size ∨ w.heap.size + 4 ≤ b)) A cs := h.ref.kept fun b hlt hbb => by
      rw [ot _ (by omega), setRow_other _ _ _ _ (by omega)]
    exact hV.mono fun b _ hb => hb.1
  · refine h.bb.trans ⟨rfl, rfl, rfl, by simp [World.setCell], fun k hk => ?_⟩
    rw [ot _ (by omega), setRow_other _ _ _ _ (by omega)]

theorem SvR.shutR {w W : World} {B : Nat → Prop} {t e l : Nat} {cs : Array Value} {A : AD} (h : SvR w B t e l W cs A) (x y z : Value) :
    ((W.setRow (w.heap.size + 1 + 1) cs).setRow (w.heap.size + 1 + 1 + 1) #[x, y, z]).heap[w.heap.size + 1 + 1]? = some (.cells cs 43 (0, 0)) ∧ ((W.setRow (w.heap.size + 1 + 1) cs).setRow (w.heap.size + 1 + 1 + 1) #[x, y, z]).heap[w.heap.size + 1 + 1 + 1]? = some (.cells #[x, y, z] 24 (0, 0)) ∧
    RefV ((W.setRow (w.heap.size + 1 + 1) cs).setRow (w.heap.size + 1 + 1 + 1) #[x, y, z]) B A cs ∧ Below w.heap.size w ((W.setRow (w.heap.size + 1 + 1) cs).setRow (w.heap.size + 1 + 1 + 1) #[x, y, z]) := by
  obtain ⟨zz, h1, h2⟩ := h.rd
  have e1 : (W.setRow (w.heap.size + 1 + 1) cs).heap[w.heap.size + 1 + 1 + 1]? = some (.cells #[.int .u64 0, .int .u64 0, .int .u8 0] 24 (0, 0)) := by rw [setRow_other _ _ _ _ (by omega)]; exact h.rh
  refine ⟨?_, setRow_heap _ _ _ _ _ _ e1, ?_, ?_⟩
  · rw [setRow_other _ _ _ _ (by omega)]; exact setRow_heap _ _ _ _ _ _ h2
  · have hV : RefV ((W.setRow (w.heap.size + 1 + 1) cs).setRow (w.heap.size + 1 + 1 + 1) #[x, y, z]) (fun b => B b ∧ (b < w.heap.size ∨ w.heap.size + 4 ≤ b)) A cs := h.ref.kept fun b hlt hbb => by
      rw [setRow_other _ _ _ _ (by omega), setRow_other _ _ _ _ (by omega)]
    exact hV.mono fun b _ hb => hb.1
  · refine h.bb.trans ⟨rfl, rfl, rfl, by simp, fun k hk => ?_⟩
    rw [setRow_other _ _ _ _ (by omega), setRow_other _ _ _ _ (by omega)]

theorem chE_two (A : AD) : chE A = 0 ∨ chE A = 3 := by
  unfold chE
  split
  · exact .inr rfl
  · split
    · exact .inr rfl
    · exact .inl rfl

/-- A disk that may be, behind Write. -/
theorem wrA_ok {A : AD} (h : A.Ok) (i : Nat) (bs : List UInt8) (hb : bs.length = 32) : (wrA A i bs).Ok := by
  have ht : A.tick.Ok := ⟨h.safe, h.room, h.cap, h.sf, h.sh, by show -1 ≤ (if 0 < A.calls then A.calls - 1 else A.calls) ∧ (if 0 < A.calls then A.calls - 1 else A.calls) ≤ _; have := h.calls; split <;> omega⟩
  unfold wrA
  split
  · exact h
  · split
    · exact ⟨h.safe, h.room, h.cap, h.sf, h.sh, h.calls⟩
    · refine ⟨ht.safe, ht.room, ht.cap, ht.sf, fun j hj => ?_, ht.calls⟩
      show (upd A.sh i bs j).length = 32
      unfold upd
      split
      · exact hb
      · exact h.sh j hj

theorem SvR.start {w : World} {B : Nat → Prop} {cs : Array Value} {A : AD} (t e l : Nat) (hV : RefV w B A cs) : SvR w B t e l ((((w.alloc (.cells cs 43)).alloc (.cells #[.int .u64 ((t : Nat) : Int), .int .u64 ((e : Nat) : Int), .int .u8 ((l : Nat) : Int)] 24)).alloc (.cells #[.int .i64 0, .slice none 0 0, .slice none 0 0, .slice none 0 0, .slice none 0 0, .slice none 0 0, .slice none 0 0, .slice none 0 0, .slice none 0 0, .bool false, .int .i64 0, .int .i64 0, .bool false] 43)).alloc (.cells #[.int .u64 0, .int .u64 0, .int .u8 0] 24)) cs A := by
  have hb : Below w.heap.size w ((((w.alloc (.cells cs 43)).alloc (.cells #[.int .u64 ((t : Nat) : Int), .int .u64 ((e : Nat) : Int), .int .u8 ((l : Nat) : Int)] 24)).alloc (.cells #[.int .i64 0, .slice none 0 0, .slice none 0 0, .slice none 0 0, .slice none 0 0, .slice none 0 0, .slice none 0 0, .slice none 0 0, .slice none 0 0, .bool false, .int .i64 0, .int .i64 0, .bool false] 43)).alloc (.cells #[.int .u64 0, .int .u64 0, .int .u8 0] 24)) :=
    ((((Below.refl _ w).alloc (Nat.le_refl _) _).alloc (by simp) _).alloc (by simp <;> omega) _).alloc (by simp <;> omega) _
  refine ⟨(hV.mono fun b hlt hbb => ⟨hbb, .inl hlt⟩).later hb, hb, by simp, ?_, ?_, ⟨#[.int .i64 0, .slice none 0 0, .slice none 0 0, .slice none 0 0, .slice none 0 0, .slice none 0 0, .slice none 0 0, .slice none 0 0, .slice none 0 0, .bool false, .int .i64 0, .int .i64 0, .bool false], rfl, ?_⟩, ?_⟩
  · rw [Below.heap_alloc _ _ _ (by simp <;> omega), Below.heap_alloc _ _ _ (by simp <;> omega), Below.heap_alloc _ _ _ (by simp)]; exact heap_alloc_new w _
  · rw [Below.heap_alloc _ _ _ (by simp <;> omega), Below.heap_alloc _ _ _ (by simp)]; exact heap_last _ _ _ (by simp)
  · rw [Below.heap_alloc _ _ _ (by simp)]; exact heap_last _ _ _ (by simp)
  · exact heap_last _ _ _ (by simp)

set_option maxRecDepth 100000 in
set_option maxHeartbeats 8000000 in
theorem refSave_any (A : AD) (hok : A.Ok) (s e l : Nat) (hf : (HeadD.mk s e l).fits) (w : World) (B : Nat → Prop) (cs : Array Value) (hV : RefV w B A cs) (hB : ∀ b, w.heap.size ≤ b → B b) :
    Calls Try.prog 22 #[.agg cs, .agg #[.int .u64 ((s : Nat) : Int), .int .u64 ((e : Nat) : Int), .int .u8 ((l : Nat) : Int)]] w fun x w' => ∃ cs', x = .returned (.tuple #[.agg cs', (saveH A ⟨s, e, l⟩).val, .int .i64 (saveE A ⟨s, e, l⟩)]) ∧ RefV w' B (saveD A ⟨s, e, l⟩) cs' ∧ Below w.heap.size w w' := by
  obtain ⟨t, ht⟩ : ∃ t, (s + 1) % 18446744073709551616 = t := ⟨_, rfl⟩
  have HNX : Hid ((HeadD.mk s e l).next = ⟨t, e, l⟩) := by show _ = _; rw [← ht]; rfl
  have HF : Hid (HeadD.mk t e l).fits := by have h2 := HeadD.next_fits hf; rw [unhide HNX] at h2; exact h2
  have hwr : IntKind.u64.wrap ((s : Int) + 1) = ((t : Nat) : Int) := by rw [IntKind.wrap_u64]; omega
  have HV := hide hV
  have HB := hide hB
  have HOK := hide hok
  clear hV hB hok hf
  go_enter Try.func22, Try.ntmps22
  go_upto_region 2 with fail
  have HR := hide (SvR.start t e l (unhide HV))
  generalize (((w.alloc (.cells cs 43)).alloc (.cells #[.int .u64 ((t : Nat) : Int), .int .u64 ((e : Nat) : Int), .int .u8 ((l : Nat) : Int)] 24)).alloc (.cells #[.int .i64 0, .slice none 0 0, .slice none 0 0, .slice none 0 0, .slice none 0 0, .slice none 0 0, .slice none 0 0, .slice none 0 0, .slice none 0 0, .bool false, .int .i64 0, .int .i64 0, .bool false] 43)).alloc (.cells #[.int .u64 0, .int .u64 0, .int .u8 0] 24) = W1 at *
  have n0 : W1.cell? ⟨w.heap.size + 1, 0, none⟩ = some (.int .u64 ((t : Nat) : Int)) := cell_of_row _ _ 0 _ _ _ (unhide HR).hd
  have n1 : W1.cell? ⟨w.heap.size + 1, 1, none⟩ = some (.int .u64 ((e : Nat) : Int)) := cell_of_row _ _ 1 _ _ _ (unhide HR).hd
  have n2 : W1.cell? ⟨w.heap.size + 1, 2, none⟩ = some (.int .u8 ((l : Nat) : Int)) := cell_of_row _ _ 2 _ _ _ (unhide HR).hd
  have HT := hide ht
  clear ht hwr HV
  cases hr : (HeadD.mk t e l).right with
  | false =>
    have HSE : Hid (saveE A ⟨s, e, l⟩ = 50) := by show _ = _; simp [saveE, unhide HNX, hr]
    have HSH : Hid (saveH A ⟨s, e, l⟩ = ⟨0, 0, 0⟩) := by show _ = _; simp [saveH, unhide HSE]
    have HSD : Hid (saveD A ⟨s, e, l⟩ = A) := by show _ = _; simp [saveD, unhide HNX, hr]
    have HRR := hide hr
    clear hr
    go_wp2_with fail
    refine (refHBytes_no t e l _ (unhide HRR)).mono ?_
    rintro x W0 ⟨rfl, hb2⟩
    have HR2 := hide ((unhide HR).later hb2)
    clear hb2 n0 n1 n2 HR
    obtain ⟨cs0, hcs0⟩ : ∃ c, cs = c := ⟨_, rfl⟩
    subst hcs0
    obtain ⟨zz, hz1, hz2⟩ := (unhide HR2).rd
    have HZ2 := hide hz2
    have HZS : Hid (zz.size = cs.size) := by show _ = _; rw [hz1, (unhide HR2).ref.shape.1]
    have HR3 : Hid ((W0.setRow (w.heap.size + 1 + 1) cs).heap[w.heap.size + 1 + 1 + 1]? = some (.cells #[.int .u64 0, .int .u64 0, .int .u8 0] 24 (0, 0))) := by show _ = _; rw [setRow_other _ _ _ _ (by omega)]; exact (unhide HR2).rh
    clear hz1 hz2
    have r0 : (W0.setRow (w.heap.size + 1 + 1) cs).cell? ⟨w.heap.size + 1 + 1 + 1, 0, none⟩ = some (.int .u64 0) := cell_of_row _ _ 0 _ _ _ (unhide HR3)
    have rf0 : (W0.setRow (w.heap.size + 1 + 1) cs).frozen? ⟨w.heap.size + 1 + 1 + 1, 0, none⟩ = false := frozen_of_row _ _ _ _ _ (unhide HR3)
    have r1 : (W0.setRow (w.heap.size + 1 + 1) cs).cell? ⟨w.heap.size + 1 + 1 + 1, 1, none⟩ = some (.int .u64 0) := cell_of_row _ _ 1 _ _ _ (unhide HR3)
    have rf1 : (W0.setRow (w.heap.size + 1 + 1) cs).frozen? ⟨w.heap.size + 1 + 1 + 1, 1, none⟩ = false := frozen_of_row _ _ _ _ _ (unhide HR3)
    have r2 : (W0.setRow (w.heap.size + 1 + 1) cs).cell? ⟨w.heap.size + 1 + 1 + 1, 2, none⟩ = some (.int .u8 0) := cell_of_row _ _ 2 _ _ _ (unhide HR3)
    have rf2 : (W0.setRow (w.heap.size + 1 + 1) cs).frozen? ⟨w.heap.size + 1 + 1 + 1, 2, none⟩ = false := frozen_of_row _ _ _ _ _ (unhide HR3)
    go_wp2_with (first
      | refine wpList_load_row rfl 43 (.tmp 2) rfl w.heap.size rfl _ _ _ _ (unhide HR2).d Try.underlying43 rfl (unhide HR2).size ?_
      | refine wpList_store_row rfl 43 (.tmp 4) (.tmp 20) rfl (w.heap.size + 1 + 1) cs rfl rfl _ _ (unhide HZ2) (unhide HR2).size (unhide HZS) (unhide HR2).ref.shape.2 ?_)
    obtain ⟨f1, f2, f3, f4⟩ := (unhide HR2).shut (.int .u64 0) (.int .u64 0) (.int .u8 0)
    refine bodyPost_ret (results_cct rfl _ _ _ _ _ _ _ _ _ _ _ _ rfl f1 Try.underlying43 rfl (unhide HR2).size rfl f2 Try.underlying24 rfl (by kernel_rfl)) rfl ?_
    exact ⟨cs, by rw [unhide HSH, unhide HSE]; rfl, by rw [unhide HSD]; exact f3, f4⟩
  | true =>
    have HRR := hide hr
    have HLB := hide (HeadD.mk t e l).bytes_len
    clear hr
    go_wp2_with fail
    refine (refHBytes_ok t e l _ (unhide HF) (unhide HRR)).mono ?_
    rintro x W2 ⟨v, rfl, hF2⟩
    have HR2 := hide ((unhide HR).later hF2.1.2.2)
    obtain ⟨va, vc, rfl, _⟩ := hF2.1.1.form
    have HBY : Hid (Bytes W2 (.slice va 32 vc) (HeadD.mk t e l).bytes) := by have h3 := hF2.1.1; rw [unhide HLB] at h3; exact h3
    rw [unhide HLB]
    clear hF2 n0 n1 n2 HR
    have n0 : W2.cell? ⟨w.heap.size + 1, 0, none⟩ = some (.int .u64 ((t : Nat) : Int)) := cell_of_row _ _ 0 _ _ _ (unhide HR2).hd
    obtain ⟨i2, hi2⟩ : ∃ i2, t % 2 = i2 := ⟨_, rfl⟩
    have hmod : (t : Int) % 2 = ((i2 : Nat) : Int) := by omega
    have HI2 := hide hi2
    have HIL : Hid (i2 < 2) := by show i2 < 2; omega
    clear hi2
    go_wp2_with (refine wpList_load_row rfl 43 (.tmp 2) rfl w.heap.size rfl _ _ _ _ (unhide HR2).d Try.underlying43 rfl (unhide HR2).size ?_)
    refine (Z_write A (unhide HOK) i2 (unhide HIL) _ (unhide HLB) W2 _ cs va 32 vc (unhide HR2).ref ((unhide HR2).new (unhide HB)) (unhide HBY)).mono ?_
    rintro x W3 ⟨cs3, rfl, hV3, hb3⟩
    have HS3 : Hid ((Try.prog.info? 43).map (·.size) = some cs3.size) := hV3.size
    have HE3 : Hid (cs.size = cs3.size) := by show _ = _; rw [(unhide HR2).ref.shape.1, hV3.shape.1]
    have HO3 := hide hV3.shape.2
    have HD3 := hide ((unhide HR2).later hb3).d
    have HR3 := hide ((unhide HR2).put hb3 hV3)
    clear hb3 hV3 n0 HBY HR2
    rcases chE_two A with hc | hc
    · rw [hc]
      have HC := hide hc
      clear hc
      go_upto_region 7 with (refine wpList_store_row rfl 43 (.tmp 2) (.tmp 31) rfl w.heap.size cs3 rfl rfl _ _ (unhide HD3) (unhide HS3) (unhide HE3) (unhide HO3) ?_)
      generalize W3.setRow w.heap.size cs3 = W4 at *
      clear HS3 HE3 HO3 HD3
      go_wp2_with (refine wpList_load_row rfl 43 (.tmp 2) rfl w.heap.size rfl _ _ _ _ (unhide HR3).d Try.underlying43 rfl (unhide HR3).size ?_)
      obtain ⟨A1, hA1⟩ : ∃ A1, wrA A i2 (HeadD.mk t e l).bytes = A1 := ⟨_, rfl⟩
      have HOK1 : Hid A1.Ok := by rw [← hA1]; exact wrA_ok (unhide HOK) i2 _ (unhide HLB)
      have HSD : Hid (saveD A ⟨s, e, l⟩ = shA A1) := by show _ = _; rw [← hA1]; simp [saveD, unhide HNX, unhide HRR, unhide HC, unhide HI2]
      have HE0 : Hid (saveE A ⟨s, e, l⟩ = chE A1) := by show _ = _; rw [← hA1]; simp [saveE, unhide HNX, unhide HRR, unhide HC, unhide HI2]
      rw [hA1] at HR3
      clear hA1
      refine (Z_syncHead A1 (unhide HOK1) W4 _ cs3 (unhide HR3).ref ((unhide HR3).new (unhide HB))).mono ?_
      rintro x W5 ⟨cs4, rfl, hV5, hb5⟩
      have HS5 : Hid ((Try.prog.info? 43).map (·.size) = some cs4.size) := hV5.size
      have HE5 : Hid (cs3.size = cs4.size) := by show _ = _; rw [(unhide HR3).ref.shape.1, hV5.shape.1]
      have HO5 := hide hV5.shape.2
      have HD5 := hide ((unhide HR3).later hb5).d
      have HR5 := hide ((unhide HR3).put hb5 hV5)
      clear hb5 hV5 HR3
      rcases chE_two A1 with hc2 | hc2
      · rw [hc2]
        have HSE : Hid (saveE A ⟨s, e, l⟩ = 0) := (unhide HE0).trans hc2
        have HSH : Hid (saveH A ⟨s, e, l⟩ = ⟨t, e, l⟩) := by show _ = _; simp [saveH, unhide HSE, unhide HNX]
        clear hc2
        go_upto_region 10 with (refine wpList_store_row rfl 43 (.tmp 2) (.tmp 38) rfl w.heap.size cs4 rfl rfl _ _ (unhide HD5) (unhide HS5) (unhide HE5) (unhide HO5) ?_)
        generalize W5.setRow w.heap.size cs4 = W6 at *
        have HRX := hide ((unhide HR5).later (Below.refl _ W6).drew)
        clear HR5 HS5 HE5 HO5 HD5
        obtain ⟨zz, hz1, hz2⟩ := (unhide HRX).rd
        have HX0 := hide (unhide HRX).d
        have HX1 := hide (unhide HRX).hd
        have HX2 := hide hz2
        have HZS : Hid (zz.size = cs4.size) := by show _ = _; rw [hz1, (unhide HRX).ref.shape.1]
        have HX1b : Hid ((W6.drew.setRow (w.heap.size + 1 + 1) cs4).heap[w.heap.size + 1]? = some (.cells #[.int .u64 ((t : Nat) : Int), .int .u64 ((e : Nat) : Int), .int .u8 ((l : Nat) : Int)] 24 (0, 0))) := by show _ = _; rw [setRow_other _ _ _ _ (by omega)]; exact (unhide HRX).hd
        have HX3 : Hid ((W6.drew.setRow (w.heap.size + 1 + 1) cs4).heap[w.heap.size + 1 + 1 + 1]? = some (.cells #[.int .u64 0, .int .u64 0, .int .u8 0] 24 (0, 0))) := by show _ = _; rw [setRow_other _ _ _ _ (by omega)]; exact (unhide HRX).rh
        clear hz1 hz2
        refine wp_region_any (by kernel_rfl) ?_
        change wpAny _ _ _ _ _ _ _ (World.drew _)
        refine wpAny_ready (rs := [0, 1]) (by kernel_rfl) (by simp) ?_
        refine AllReady.cons rfl (fun K hK => ?_) (AllReady.cons rfl (fun K hK => ?_) AllReady.nil)
        · refine step_load_row rfl 43 (.tmp 2) rfl w.heap.size rfl _ cs4 _ _ (unhide HX0) Try.underlying43 rfl (unhide HRX).size ?_
          refine hK _ _ ?_
          clear hK K
          refine wpAny_ready (rs := [1, 2]) (by kernel_rfl) (by simp) ?_
          refine AllReady.cons rfl (fun K hK => ?_) (AllReady.cons rfl (fun K hK => ?_) AllReady.nil)
          · refine step_load_row rfl 24 (.tmp 3) rfl (w.heap.size + 1) rfl _ #[.int .u64 ((t : Nat) : Int), .int .u64 ((e : Nat) : Int), .int .u8 ((l : Nat) : Int)] _ _ (unhide HX1) Try.underlying24 rfl (by kernel_rfl) ?_
            refine hK _ _ ?_
            clear hK K
            refine wpAny_ready (rs := [2]) (by kernel_rfl) (by simp) ?_
            refine AllReady.cons rfl (fun K hK => ?_) AllReady.nil
            refine step_store_row rfl 43 (.tmp 4) (.tmp 45) rfl (w.heap.size + 1 + 1) cs4 rfl rfl _ _ (unhide HX2) (unhide HRX).size (unhide HZS) (unhide HRX).ref.shape.2 ?_
            refine hK _ _ ?_
            clear hK K
            refine wpAny_ready (rs := [3]) (by kernel_rfl) (by simp) ?_
            refine AllReady.cons rfl (fun K hK => ?_) AllReady.nil
            refine step_store_row rfl 24 (.tmp 5) (.tmp 46) rfl (w.heap.size + 1 + 1 + 1) #[.int .u64 ((t : Nat) : Int), .int .u64 ((e : Nat) : Int), .int .u8 ((l : Nat) : Int)] rfl rfl _ _ (unhide HX3) (by kernel_rfl) rfl (by kernel_rfl) ?_
            refine hK _ _ ?_
            clear hK K
            refine wpAny_ready (rs := [4]) (by kernel_rfl) (by simp) ?_
            refine AllReady.cons rfl (fun K hK => ?_) AllReady.nil
            go_simp
            refine hK _ _ ?_
            clear hK K
            refine wpAny_done (by kernel_rfl) ?_ _
            go_wp2_with fail
            obtain ⟨f1, f2, f3, f4⟩ := (unhide HRX).shutR (.int .u64 ((t : Nat) : Int)) (.int .u64 ((e : Nat) : Int)) (.int .u8 ((l : Nat) : Int))
            refine bodyPost_ret (results_cct rfl _ _ _ _ _ _ _ _ _ _ _ _ rfl f1 Try.underlying43 rfl (unhide HRX).size rfl f2 Try.underlying24 rfl (by kernel_rfl)) rfl ?_
            exact ⟨cs4, by rw [unhide HSH, unhide HSE]; rfl, by rw [unhide HSD]; exact f3, f4⟩
          · refine step_store_row rfl 43 (.tmp 4) (.tmp 45) rfl (w.heap.size + 1 + 1) cs4 rfl rfl _ _ (unhide HX2) (unhide HRX).size (unhide HZS) (unhide HRX).ref.shape.2 ?_
            refine hK _ _ ?_
            clear hK K
            refine wpAny_ready (rs := [1]) (by kernel_rfl) (by simp) ?_
            refine AllReady.cons rfl (fun K hK => ?_) AllReady.nil
            refine step_load_row rfl 24 (.tmp 3) rfl (w.heap.size + 1) rfl _ #[.int .u64 ((t : Nat) : Int), .int .u64 ((e : Nat) : Int), .int .u8 ((l : Nat) : Int)] _ _ (unhide HX1b) Try.underlying24 rfl (by kernel_rfl) ?_
            refine hK _ _ ?_
            clear hK K
            refine wpAny_ready (rs := [3]) (by kernel_rfl) (by simp) ?_
            refine AllReady.cons rfl (fun K hK => ?_) AllReady.nil
            refine step_store_row rfl 24 (.tmp 5) (.tmp 46) rfl (w.heap.size + 1 + 1 + 1) #[.int .u64 ((t : Nat) : Int), .int .u64 ((e : Nat) : Int), .int .u8 ((l : Nat) : Int)] rfl rfl _ _ (unhide HX3) (by kernel_rfl) rfl (by kernel_rfl) ?_
            refine hK _ _ ?_
            clear hK K
            refine wpAny_ready (rs := [4]) (by kernel_rfl) (by simp) ?_
            refine AllReady.cons rfl (fun K hK => ?_) AllReady.nil
            go_simp
            refine hK _ _ ?_
            clear hK K
            refine wpAny_done (by kernel_rfl) ?_ _
            go_wp2_with fail
            obtain ⟨f1, f2, f3, f4⟩ := (unhide HRX).shutR (.int .u64 ((t : Nat) : Int)) (.int .u64 ((e : Nat) : Int)) (.int .u8 ((l : Nat) : Int))
            refine bodyPost_ret (results_cct rfl _ _ _ _ _ _ _ _ _ _ _ _ rfl f1 Try.underlying43 rfl (unhide HRX).size rfl f2 Try.underlying24 rfl (by kernel_rfl)) rfl ?_
            exact ⟨cs4, by rw [unhide HSH, unhide HSE]; rfl, by rw [unhide HSD]; exact f3, f4⟩
        · refine step_load_row rfl 24 (.tmp 3) rfl (w.heap.size + 1) rfl _ #[.int .u64 ((t : Nat) : Int), .int .u64 ((e : Nat) : Int), .int .u8 ((l : Nat) : Int)] _ _ (unhide HX1) Try.underlying24 rfl (by kernel_rfl) ?_
          refine hK _ _ ?_
          clear hK K
          refine wpAny_ready (rs := [0]) (by kernel_rfl) (by simp) ?_
          refine AllReady.cons rfl (fun K hK => ?_) AllReady.nil
          refine step_load_row rfl 43 (.tmp 2) rfl w.heap.size rfl _ cs4 _ _ (unhide HX0) Try.underlying43 rfl (unhide HRX).size ?_
          refine hK _ _ ?_
          clear hK K
          refine wpAny_ready (rs := [2]) (by kernel_rfl) (by simp) ?_
          refine AllReady.cons rfl (fun K hK => ?_) AllReady.nil
          refine step_store_row rfl 43 (.tmp 4) (.tmp 45) rfl (w.heap.size + 1 + 1) cs4 rfl rfl _ _ (unhide HX2) (unhide HRX).size (unhide HZS) (unhide HRX).ref.shape.2 ?_
          refine hK _ _ ?_
          clear hK K
          refine wpAny_ready (rs := [3]) (by kernel_rfl) (by simp) ?_
          refine AllReady.cons rfl (fun K hK => ?_) AllReady.nil
          refine step_store_row rfl 24 (.tmp 5) (.tmp 46) rfl (w.heap.size + 1 + 1 + 1) #[.int .u64 ((t : Nat) : Int), .int .u64 ((e : Nat) : Int), .int .u8 ((l : Nat) : Int)] rfl rfl _ _ (unhide HX3) (by kernel_rfl) rfl (by kernel_rfl) ?_
          refine hK _ _ ?_
          clear hK K
          refine wpAny_ready (rs := [4]) (by kernel_rfl) (by simp) ?_
          refine AllReady.cons rfl (fun K hK => ?_) AllReady.nil
          go_simp
          refine hK _ _ ?_
          clear hK K
          refine wpAny_done (by kernel_rfl) ?_ _
          go_wp2_with fail
          obtain ⟨f1, f2, f3, f4⟩ := (unhide HRX).shutR (.int .u64 ((t : Nat) : Int)) (.int .u64 ((e : Nat) : Int)) (.int .u8 ((l : Nat) : Int))
          refine bodyPost_ret (results_cct rfl _ _ _ _ _ _ _ _ _ _ _ _ rfl f1 Try.underlying43 rfl (unhide HRX).size rfl f2 Try.underlying24 rfl (by kernel_rfl)) rfl ?_
          exact ⟨cs4, by rw [unhide HSH, unhide HSE]; rfl, by rw [unhide HSD]; exact f3, f4⟩
      · rw [hc2]
        have HSE : Hid (saveE A ⟨s, e, l⟩ = 3) := (unhide HE0).trans hc2
        have HSH : Hid (saveH A ⟨s, e, l⟩ = ⟨0, 0, 0⟩) := by show _ = _; simp [saveH, unhide HSE]
        clear hc2
        go_upto_region 9 with (refine wpList_store_row rfl 43 (.tmp 2) (.tmp 38) rfl w.heap.size cs4 rfl rfl _ _ (unhide HD5) (unhide HS5) (unhide HE5) (unhide HO5) ?_)
        generalize W5.setRow w.heap.size cs4 = W6 at *
        clear HS5 HE5 HO5 HD5
        obtain ⟨zz, hz1, hz2⟩ := (unhide HR5).rd
        have HZ2 := hide hz2
        have HZS : Hid (zz.size = cs4.size) := by show _ = _; rw [hz1, (unhide HR5).ref.shape.1]
        have HR3 : Hid ((W6.setRow (w.heap.size + 1 + 1) cs4).heap[w.heap.size + 1 + 1 + 1]? = some (.cells #[.int .u64 0, .int .u64 0, .int .u8 0] 24 (0, 0))) := by show _ = _; rw [setRow_other _ _ _ _ (by omega)]; exact (unhide HR5).rh
        clear hz1 hz2
        have r0 : (W6.setRow (w.heap.size + 1 + 1) cs4).cell? ⟨w.heap.size + 1 + 1 + 1, 0, none⟩ = some (.int .u64 0) := cell_of_row _ _ 0 _ _ _ (unhide HR3)
        have rf0 : (W6.setRow (w.heap.size + 1 + 1) cs4).frozen? ⟨w.heap.size + 1 + 1 + 1, 0, none⟩ = false := frozen_of_row _ _ _ _ _ (unhide HR3)
        have r1 : (W6.setRow (w.heap.size + 1 + 1) cs4).cell? ⟨w.heap.size + 1 + 1 + 1, 1, none⟩ = some (.int .u64 0) := cell_of_row _ _ 1 _ _ _ (unhide HR3)
        have rf1 : (W6.setRow (w.heap.size + 1 + 1) cs4).frozen? ⟨w.heap.size + 1 + 1 + 1, 1, none⟩ = false := frozen_of_row _ _ _ _ _ (unhide HR3)
        have r2 : (W6.setRow (w.heap.size + 1 + 1) cs4).cell? ⟨w.heap.size + 1 + 1 + 1, 2, none⟩ = some (.int .u8 0) := cell_of_row _ _ 2 _ _ _ (unhide HR3)
        have rf2 : (W6.setRow (w.heap.size + 1 + 1) cs4).frozen? ⟨w.heap.size + 1 + 1 + 1, 2, none⟩ = false := frozen_of_row _ _ _ _ _ (unhide HR3)
        go_wp2_with (first
          | refine wpList_load_row rfl 43 (.tmp 2) rfl w.heap.size rfl _ _ _ _ (unhide HR5).d Try.underlying43 rfl (unhide HR5).size ?_
          | refine wpList_store_row rfl 43 (.tmp 4) (.tmp 42) rfl (w.heap.size + 1 + 1) cs4 rfl rfl _ _ (unhide HZ2) (unhide HR5).size (unhide HZS) (unhide HR5).ref.shape.2 ?_)
        obtain ⟨f1, f2, f3, f4⟩ := (unhide HR5).shut (.int .u64 0) (.int .u64 0) (.int .u8 0)
        refine bodyPost_ret (results_cct rfl _ _ _ _ _ _ _ _ _ _ _ _ rfl f1 Try.underlying43 rfl (unhide HR5).size rfl f2 Try.underlying24 rfl (by kernel_rfl)) rfl ?_
        exact ⟨cs4, by rw [unhide HSH, unhide HSE]; rfl, by rw [unhide HSD]; exact f3, f4⟩
    · rw [hc]
      have HSD : Hid (saveD A ⟨s, e, l⟩ = wrA A i2 (HeadD.mk t e l).bytes) := by show _ = _; simp [saveD, unhide HNX, unhide HRR, hc, unhide HI2]
      have HSE : Hid (saveE A ⟨s, e, l⟩ = 3) := by show _ = _; simp [saveE, unhide HNX, unhide HRR, hc]
      have HSH : Hid (saveH A ⟨s, e, l⟩ = ⟨0, 0, 0⟩) := by show _ = _; simp [saveH, unhide HSE]
      clear hc
      go_upto_region 9 with (refine wpList_store_row rfl 43 (.tmp 2) (.tmp 31) rfl w.heap.size cs3 rfl rfl _ _ (unhide HD3) (unhide HS3) (unhide HE3) (unhide HO3) ?_)
      generalize W3.setRow w.heap.size cs3 = W4 at *
      have HR4 := HR3
      clear HS3 HE3 HO3 HD3 HR3
      obtain ⟨zz, hz1, hz2⟩ := (unhide HR4).rd
      have HZ2 := hide hz2
      have HZS : Hid (zz.size = cs3.size) := by show _ = _; rw [hz1, (unhide HR4).ref.shape.1]
      have HR3 : Hid ((W4.setRow (w.heap.size + 1 + 1) cs3).heap[w.heap.size + 1 + 1 + 1]? = some (.cells #[.int .u64 0, .int .u64 0, .int .u8 0] 24 (0, 0))) := by show _ = _; rw [setRow_other _ _ _ _ (by omega)]; exact (unhide HR4).rh
      clear hz1 hz2
      have r0 : (W4.setRow (w.heap.size + 1 + 1) cs3).cell? ⟨w.heap.size + 1 + 1 + 1, 0, none⟩ = some (.int .u64 0) := cell_of_row _ _ 0 _ _ _ (unhide HR3)
      have rf0 : (W4.setRow (w.heap.size + 1 + 1) cs3).frozen? ⟨w.heap.size + 1 + 1 + 1, 0, none⟩ = false := frozen_of_row _ _ _ _ _ (unhide HR3)
      have r1 : (W4.setRow (w.heap.size + 1 + 1) cs3).cell? ⟨w.heap.size + 1 + 1 + 1, 1, none⟩ = some (.int .u64 0) := cell_of_row _ _ 1 _ _ _ (unhide HR3)
      have rf1 : (W4.setRow (w.heap.size + 1 + 1) cs3).frozen? ⟨w.heap.size + 1 + 1 + 1, 1, none⟩ = false := frozen_of_row _ _ _ _ _ (unhide HR3)
      have r2 : (W4.setRow (w.heap.size + 1 + 1) cs3).cell? ⟨w.heap.size + 1 + 1 + 1, 2, none⟩ = some (.int .u8 0) := cell_of_row _ _ 2 _ _ _ (unhide HR3)
      have rf2 : (W4.setRow (w.heap.size + 1 + 1) cs3).frozen? ⟨w.heap.size + 1 + 1 + 1, 2, none⟩ = false := frozen_of_row _ _ _ _ _ (unhide HR3)
      go_wp2_with (first
        | refine wpList_load_row rfl 43 (.tmp 2) rfl w.heap.size rfl _ _ _ _ (unhide HR4).d Try.underlying43 rfl (unhide HR4).size ?_
        | refine wpList_store_row rfl 43 (.tmp 4) (.tmp 42) rfl (w.heap.size + 1 + 1) cs3 rfl rfl _ _ (unhide HZ2) (unhide HR4).size (unhide HZS) (unhide HR4).ref.shape.2 ?_)
      obtain ⟨f1, f2, f3, f4⟩ := (unhide HR4).shut (.int .u64 0) (.int .u64 0) (.int .u8 0)
      refine bodyPost_ret (results_cct rfl _ _ _ _ _ _ _ _ _ _ _ _ rfl f1 Try.underlying43 rfl (unhide HR4).size rfl f2 Try.underlying24 rfl (by kernel_rfl)) rfl ?_
      exact ⟨cs3, by rw [unhide HSH, unhide HSE]; rfl, by rw [unhide HSD]; exact f3, f4⟩
end Go.Proofs.Ytoabpjdpdcpdlaa

namespace Go.Proofs.Ytoabpjdpdcpdlaa
open Go.RowKit

theorem hdOf0 {A : AD} (hd : A.dead = false) : hdOf A 0 = A.sh 0 := by simp [hdOf, hd]
theorem hdOf1 {A : AD} (hd : A.dead = false) : hdOf A 1 = A.sh 1 := by simp [hdOf, hd]

theorem kept_new5 {W w' : World} {o : Obj} (h : Below (W.alloc o).heap.size (W.alloc o) w') : w'.heap[W.heap.size]? = some o := (h.block _ (by simp)).trans (heap_alloc_new W o)

set_option maxRecDepth 100000 in
set_option maxHeartbeats 8000000 in
theorem refLoad_any (A : AD) (hok : A.Ok) (w : World) (B : Nat → Prop) (cs : Array Value) (hV : RefV w B A cs) :
    Calls Try.prog 24 #[.agg cs] w fun x w' => x = .returned (.tuple #[(loadH A).val, .int .i64 (loadE A)]) ∧ Below w.heap.size w w' := by
  obtain ⟨w1, hw1⟩ : ∃ w1, w1 = w.alloc (.cells cs 43) := ⟨_, rfl⟩
  obtain ⟨w2, hw2⟩ : ∃ w2, w2 = w1.alloc (.cells #[.int .u64 0, .int .u64 0, .int .u8 0] 24) := ⟨_, rfl⟩
  have hs1 : w1.heap.size = w.heap.size + 1 := by rw [hw1]; simp
  have hb1 : Below w.heap.size w w1 := by rw [hw1]; exact (Below.refl _ w).alloc (Nat.le_refl _) _
  have hb2 : Below w.heap.size w w2 := by rw [hw2]; exact hb1.alloc (by omega) _
  have hd1 : w2.heap[w.heap.size]? = some (.cells cs 43 (0, 0)) := by
    rw [hw2, Below.heap_alloc _ _ _ (by omega), hw1]; exact heap_alloc_new w _
  have hd2 : w2.heap[w.heap.size + 1]? = some (.cells #[.int .u64 0, .int .u64 0, .int .u8 0] 24 (0, 0)) := by
    rw [hw2]; exact heap_last _ _ _ hs1
  have HV2 := hide (hV.later hb2)
  have hdc := (unhide HV2).deadCell hd1
  have HB2 := hide hb2
  have HD2 := hide hd2
  have HOK := hide hok
  obtain ⟨v0, v1, v2, v3, v4, v5, v6, v7, v8, v9, v10, v11, v12, rfl⟩ := arr13 hV.shape.1
  obtain ⟨y0, y1, y2, y3, y4, y5, y6, y7, y8, y9, y10, y11, y12⟩ := row13 hd1
  have r0 : w2.cell? ⟨w.heap.size + 1, 0, none⟩ = some (.int .u64 0) := cell_of_row _ _ 0 _ _ _ hd2
  have r1 : w2.cell? ⟨w.heap.size + 1, 1, none⟩ = some (.int .u64 0) := cell_of_row _ _ 1 _ _ _ hd2
  have r2 : w2.cell? ⟨w.heap.size + 1, 2, none⟩ = some (.int .u8 0) := cell_of_row _ _ 2 _ _ _ hd2
  have f0 : w2.frozen? ⟨w.heap.size + 1, 0, none⟩ = false := frozen_of_row _ _ _ _ _ hd2
  have f1 : w2.frozen? ⟨w.heap.size + 1, 1, none⟩ = false := frozen_of_row _ _ _ _ _ hd2
  have f2 : w2.frozen? ⟨w.heap.size + 1, 2, none⟩ = false := frozen_of_row _ _ _ _ _ hd2
  have HKS : Hid (∀ W, Below w2.heap.size w2 W → W.cell? ⟨w.heap.size, 0, none⟩ = some v0 ∧ W.cell? ⟨w.heap.size, 1, none⟩ = some v1 ∧ W.cell? ⟨w.heap.size, 2, none⟩ = some v2 ∧ W.cell? ⟨w.heap.size, 3, none⟩ = some v3 ∧ W.cell? ⟨w.heap.size, 4, none⟩ = some v4 ∧ W.cell? ⟨w.heap.size, 5, none⟩ = some v5 ∧ W.cell? ⟨w.heap.size, 6, none⟩ = some v6 ∧ W.cell? ⟨w.heap.size, 7, none⟩ = some v7 ∧ W.cell? ⟨w.heap.size, 8, none⟩ = some v8 ∧ W.cell? ⟨w.heap.size, 9, none⟩ = some v9 ∧ W.cell? ⟨w.heap.size, 10, none⟩ = some v10 ∧ W.cell? ⟨w.heap.size, 11, none⟩ = some v11 ∧ W.cell? ⟨w.heap.size, 12, none⟩ = some v12 ∧ Below w2.heap.size w2 W) := fun W hb => by
    have h13 := row13 ((hb.block _ (Array.getElem?_eq_some_iff.1 hd1).1).trans hd1)
    obtain ⟨z0, z1, z2, z3, z4, z5, z6, z7, z8, z9, z10, z11, z12⟩ := h13
    exact ⟨z0, z1, z2, z3, z4, z5, z6, z7, z8, z9, z10, z11, z12, hb⟩
  clear hV hb1 hb2 hd1 hd2 hok hs1
  go_enter Try.func24, Try.ntmps24
  go_upto_region 1 with fail
  rw [← hw1]
  rw [← hw2]
  clear hw1 hw2
  cases hd : A.dead with
  | true =>
    have HLE : Hid (loadE A = 3) := by show _ = _; simp [loadE, hd]
    have HLH : Hid (loadH A = ⟨0, 0, 0⟩) := by show _ = _; simp [loadH, hd]
    rw [hd] at hdc
    clear hd
    have e12 : v12 = .bool true := by rw [y12] at hdc; exact Option.some.inj hdc
    subst e12
    clear hdc
    go_wp2_with fail
    refine bodyPost_ret (results_ct rfl _ _ _ _ _ _ _ rfl (set3_heap (unhide HD2) _ _ _) Try.underlying24 rfl (by kernel_rfl)) rfl ?_
    exact ⟨by rw [unhide HLH, unhide HLE]; rfl, set3_below (unhide HB2) (by omega) _ _ _⟩
  | false =>
    have HD := hide hd
    rw [hd] at hdc
    clear hd
    have e12 : v12 = .bool false := by rw [y12] at hdc; exact Option.some.inj hdc
    subst e12
    clear hdc
    go_upto_region 3 with fail
    have tok1 : True := trivial
    obtain ⟨⟨S, E, L⟩, hPV⟩ : ∃ V, pickV (A.sh 0) (A.sh 1) = V := ⟨_, rfl⟩
    obtain ⟨X, hX⟩ : ∃ X, (pickH (A.sh 0) (A.sh 1)).isSome = X := ⟨_, rfl⟩
    have HPV : Hid ((pickV (hdOf A 0) (hdOf A 1)).val = .agg #[.int .u64 ((S : Nat) : Int), .int .u64 ((E : Nat) : Int), .int .u8 ((L : Nat) : Int)]) := by show _ = _; rw [hdOf0 (unhide HD), hdOf1 (unhide HD), hPV]; rfl
    have HPX : Hid ((pickH (hdOf A 0) (hdOf A 1)).isSome = X) := by show _ = _; rw [hdOf0 (unhide HD), hdOf1 (unhide HD), hX]
    have HE0 : Hid (loadE A = if X then 0 else 50) := by show _ = _; simp [loadE, unhide HD, hX]
    have HH0 : Hid (loadH A = ⟨S, E, L⟩) := by show _ = _; simp [loadH, unhide HD, hPV]
    have HZ0 : Hid (X = false → loadH A = ⟨0, 0, 0⟩) := fun h => by
      have h2 := hX.trans h
      simp [loadH, unhide HD, pickV, Option.isSome_eq_false_iff.1 h2 |> Option.isNone_iff_eq_none.1]
    clear hPV hX
    go_cut [4, 5] (fun pv xv wx => ∃ g : Nat, pv = .pointer (some ⟨g, 0, none⟩) ∧ xv = .bool X ∧ wx.heap[g]? = some (.cells #[.int .u64 ((S : Nat) : Int), .int .u64 ((E : Nat) : Int), .int .u8 ((L : Nat) : Int)] 24 (0, 0)) ∧ w2.heap.size ≤ g ∧ Below w2.heap.size w2 wx)
    case first =>
      go_region_held3 (fun W => W.cell? ⟨w.heap.size, 0, none⟩ = some v0 ∧ W.cell? ⟨w.heap.size, 1, none⟩ = some v1 ∧ W.cell? ⟨w.heap.size, 2, none⟩ = some v2 ∧ W.cell? ⟨w.heap.size, 3, none⟩ = some v3 ∧ W.cell? ⟨w.heap.size, 4, none⟩ = some v4 ∧ W.cell? ⟨w.heap.size, 5, none⟩ = some v5 ∧ W.cell? ⟨w.heap.size, 6, none⟩ = some v6 ∧ W.cell? ⟨w.heap.size, 7, none⟩ = some v7 ∧ W.cell? ⟨w.heap.size, 8, none⟩ = some v8 ∧ W.cell? ⟨w.heap.size, 9, none⟩ = some v9 ∧ W.cell? ⟨w.heap.size, 10, none⟩ = some v10 ∧ W.cell? ⟨w.heap.size, 11, none⟩ = some v11 ∧ W.cell? ⟨w.heap.size, 12, none⟩ = some (.bool false) ∧ Below w2.heap.size w2 W)
        ((refine unhide HKS _ ?_; first | assumption | exact hBC.alloc hBC.size _ | exact hBB.alloc hBB.size _ | exact hBA.alloc hBA.size _ | exact ((hBC.setCell (p := ⟨_, 0, none⟩) (Nat.le_refl _) _).setCell (p := ⟨_, 1, none⟩) (Nat.le_refl _) _).setCell (p := ⟨_, 2, none⟩) (Nat.le_refl _) _ | exact ((hBC.setCell (p := ⟨_, 0, none⟩) hBA.size _).setCell (p := ⟨_, 1, none⟩) hBA.size _).setCell (p := ⟨_, 2, none⟩) hBA.size _ | exact ((hBC.setCell (p := ⟨_, 0, none⟩) hBB.size _).setCell (p := ⟨_, 1, none⟩) hBB.size _).setCell (p := ⟨_, 2, none⟩) hBB.size _ | exact (Below.refl _ _).drew | exact ((Below.refl _ _).alloc (Nat.le_refl _) _).drew | exact (by assumption : _ ∧ _ ∧ _ ∧ _ ∧ _ ∧ _ ∧ _ ∧ _ ∧ _ ∧ _ ∧ _ ∧ _ ∧ _ ∧ Below w2.heap.size w2 _).2.2.2.2.2.2.2.2.2.2.2.2.2.alloc (by assumption : _ ∧ _ ∧ _ ∧ _ ∧ _ ∧ _ ∧ _ ∧ _ ∧ _ ∧ _ ∧ _ ∧ _ ∧ _ ∧ Below w2.heap.size w2 _).2.2.2.2.2.2.2.2.2.2.2.2.2.size _))
        (first
          | (have _t := tok1; go_at_call 41; clear tok1; refine (mHead ((unhide HV2).later (by assumption : _ ∧ _ ∧ _ ∧ _ ∧ _ ∧ _ ∧ _ ∧ _ ∧ _ ∧ _ ∧ _ ∧ _ ∧ _ ∧ Below w2.heap.size w2 _).2.2.2.2.2.2.2.2.2.2.2.2.2) (unhide HOK) 0).mono ?_; rintro x w3 ⟨q0, rfl, hq0, hb3⟩; have hBA := (by assumption : _ ∧ _ ∧ _ ∧ _ ∧ _ ∧ _ ∧ _ ∧ _ ∧ _ ∧ _ ∧ _ ∧ _ ∧ _ ∧ Below w2.heap.size w2 _).2.2.2.2.2.2.2.2.2.2.2.2.2.trans (hb3.mono (by assumption : _ ∧ _ ∧ _ ∧ _ ∧ _ ∧ _ ∧ _ ∧ _ ∧ _ ∧ _ ∧ _ ∧ _ ∧ _ ∧ Below w2.heap.size w2 _).2.2.2.2.2.2.2.2.2.2.2.2.2.size); (first | (have P3 : Hid (w3.heap[w2.heap.size]? = some (.cells #[.int .u64 0, .int .u64 0, .int .u8 0] 24 (0, 0))) := kept_new5 (W := w2.drew) hb3) | skip); clear hb3)
          | (go_at_call 41; refine (mHead ((unhide HV2).later (by assumption : _ ∧ _ ∧ _ ∧ _ ∧ _ ∧ _ ∧ _ ∧ _ ∧ _ ∧ _ ∧ _ ∧ _ ∧ _ ∧ Below w2.heap.size w2 _).2.2.2.2.2.2.2.2.2.2.2.2.2) (unhide HOK) 1).mono ?_; rintro x w4 ⟨q1, rfl, hq1, hb4⟩; have hBB := (by assumption : _ ∧ _ ∧ _ ∧ _ ∧ _ ∧ _ ∧ _ ∧ _ ∧ _ ∧ _ ∧ _ ∧ _ ∧ _ ∧ Below w2.heap.size w2 _).2.2.2.2.2.2.2.2.2.2.2.2.2.trans (hb4.mono (by assumption : _ ∧ _ ∧ _ ∧ _ ∧ _ ∧ _ ∧ _ ∧ _ ∧ _ ∧ _ ∧ _ ∧ _ ∧ _ ∧ Below w2.heap.size w2 _).2.2.2.2.2.2.2.2.2.2.2.2.2.size); (first | (have P4 : Hid (w4.heap[w3.heap.size]? = some (.cells #[.int .u64 0, .int .u64 0, .int .u8 0] 24 (0, 0))) := kept_new5 (W := w3) hb4) | (have P4 : Hid (w4.heap[w2.heap.size]? = some (.cells #[.int .u64 0, .int .u64 0, .int .u8 0] 24 (0, 0))) := (hb4.block _ (Array.getElem?_eq_some_iff.1 (unhide P3)).1).trans (unhide P3)) | skip); have hq0b : Bytes w4 q0 (hdOf A 0) := (by first | exact hq0.kept (fun k _ hk => hb4.block k hk) | exact (hq0.alloc _).kept (fun k _ hk => hb4.block k hk)); clear hb4)
          | (go_at_call 15; refine (refPick_any q0 q1 (hdOf A 0) (hdOf A 1) _ (by first | exact hq0b | exact hq0b.alloc _) (by first | exact hq1 | exact hq1.alloc _)).mono ?_; rintro x w5 ⟨rfl, hb5⟩; rw [unhide HPV, unhide HPX]; have hBC := (by assumption : _ ∧ _ ∧ _ ∧ _ ∧ _ ∧ _ ∧ _ ∧ _ ∧ _ ∧ _ ∧ _ ∧ _ ∧ _ ∧ Below w2.heap.size w2 _).2.2.2.2.2.2.2.2.2.2.2.2.2.trans (hb5.mono (by assumption : _ ∧ _ ∧ _ ∧ _ ∧ _ ∧ _ ∧ _ ∧ _ ∧ _ ∧ _ ∧ _ ∧ _ ∧ _ ∧ Below w2.heap.size w2 _).2.2.2.2.2.2.2.2.2.2.2.2.2.size); (first | (have P5 : Hid (w5.heap[w4.heap.size]? = some (.cells #[.int .u64 0, .int .u64 0, .int .u8 0] 24 (0, 0))) := kept_new5 (W := w4) hb5; have pc0 : w5.cell? ⟨w4.heap.size, 0, none⟩ = some (.int .u64 0) := cell_of_row _ _ 0 _ _ _ (unhide P5); have pf0 : w5.frozen? ⟨w4.heap.size, 0, none⟩ = false := frozen_of_row _ _ _ _ _ (unhide P5); have pc1 : w5.cell? ⟨w4.heap.size, 1, none⟩ = some (.int .u64 0) := cell_of_row _ _ 1 _ _ _ (unhide P5); have pf1 : w5.frozen? ⟨w4.heap.size, 1, none⟩ = false := frozen_of_row _ _ _ _ _ (unhide P5); have pc2 : w5.cell? ⟨w4.heap.size, 2, none⟩ = some (.int .u8 0) := cell_of_row _ _ 2 _ _ _ (unhide P5); have pf2 : w5.frozen? ⟨w4.heap.size, 2, none⟩ = false := frozen_of_row _ _ _ _ _ (unhide P5)) | (have P5 : Hid (w5.heap[w3.heap.size]? = some (.cells #[.int .u64 0, .int .u64 0, .int .u8 0] 24 (0, 0))) := (hb5.block _ (Array.getElem?_eq_some_iff.1 (unhide P4)).1).trans (unhide P4); have pc0 : w5.cell? ⟨w3.heap.size, 0, none⟩ = some (.int .u64 0) := cell_of_row _ _ 0 _ _ _ (unhide P5); have pf0 : w5.frozen? ⟨w3.heap.size, 0, none⟩ = false := frozen_of_row _ _ _ _ _ (unhide P5); have pc1 : w5.cell? ⟨w3.heap.size, 1, none⟩ = some (.int .u64 0) := cell_of_row _ _ 1 _ _ _ (unhide P5); have pf1 : w5.frozen? ⟨w3.heap.size, 1, none⟩ = false := frozen_of_row _ _ _ _ _ (unhide P5); have pc2 : w5.cell? ⟨w3.heap.size, 2, none⟩ = some (.int .u8 0) := cell_of_row _ _ 2 _ _ _ (unhide P5); have pf2 : w5.frozen? ⟨w3.heap.size, 2, none⟩ = false := frozen_of_row _ _ _ _ _ (unhide P5)) | (have P5 : Hid (w5.heap[w2.heap.size]? = some (.cells #[.int .u64 0, .int .u64 0, .int .u8 0] 24 (0, 0))) := (hb5.block _ (Array.getElem?_eq_some_iff.1 (unhide P4)).1).trans (unhide P4); have pc0 : w5.cell? ⟨w2.heap.size, 0, none⟩ = some (.int .u64 0) := cell_of_row _ _ 0 _ _ _ (unhide P5); have pf0 : w5.frozen? ⟨w2.heap.size, 0, none⟩ = false := frozen_of_row _ _ _ _ _ (unhide P5); have pc1 : w5.cell? ⟨w2.heap.size, 1, none⟩ = some (.int .u64 0) := cell_of_row _ _ 1 _ _ _ (unhide P5); have pf1 : w5.frozen? ⟨w2.heap.size, 1, none⟩ = false := frozen_of_row _ _ _ _ _ (unhide P5); have pc2 : w5.cell? ⟨w2.heap.size, 2, none⟩ = some (.int .u8 0) := cell_of_row _ _ 2 _ _ _ (unhide P5); have pf2 : w5.frozen? ⟨w2.heap.size, 2, none⟩ = false := frozen_of_row _ _ _ _ _ (unhide P5)) | skip); clear hb5))
      all_goals (
        go_wp2_with fail
        go_meet
        first
          | exact ⟨_, rfl, rfl, heap_alloc_new w5 _, hBC.size, hBC.alloc hBC.size _⟩
          | exact ⟨_, rfl, rfl, set3_heap (unhide P5) _ _ _, hBB.size, set3_below hBC hBB.size _ _ _⟩
          | exact ⟨_, rfl, rfl, set3_heap (unhide P5) _ _ _, hBA.size, set3_below hBC hBA.size _ _ _⟩
          | exact ⟨_, rfl, rfl, set3_heap (unhide P5) _ _ _, Nat.le_refl _, set3_below hBC (Nat.le_refl _) _ _ _⟩)
    obtain ⟨g, rfl, rfl, hX, hg, hB⟩ := hcut
    have HX := hide hX
    have HBX := hide hB
    have hD3 := (hB.block _ (Array.getElem?_eq_some_iff.1 (unhide HD2)).1).trans (unhide HD2)
    have HD3 := hide hD3
    clear hX hg hB hD3 y0 y1 y2 y3 y4 y5 y6 y7 y8 y9 y10 y11 y12 r0 r1 r2 f0 f1 f2 HKS
    generalize wc = w6 at *
    have HB6 : Hid (Below w.heap.size w w6) := (unhide HB2).trans ((unhide HBX).mono (unhide HB2).size)
    have c0 : w6.cell? ⟨g, 0, none⟩ = some (.int .u64 ((S : Nat) : Int)) := cell_of_row _ _ 0 _ _ _ (unhide HX)
    have c1 : w6.cell? ⟨g, 1, none⟩ = some (.int .u64 ((E : Nat) : Int)) := cell_of_row _ _ 1 _ _ _ (unhide HX)
    have c2 : w6.cell? ⟨g, 2, none⟩ = some (.int .u8 ((L : Nat) : Int)) := cell_of_row _ _ 2 _ _ _ (unhide HX)
    have r0 : w6.cell? ⟨w.heap.size + 1, 0, none⟩ = some (.int .u64 0) := cell_of_row _ _ 0 _ _ _ (unhide HD3)
    have r1 : w6.cell? ⟨w.heap.size + 1, 1, none⟩ = some (.int .u64 0) := cell_of_row _ _ 1 _ _ _ (unhide HD3)
    have r2 : w6.cell? ⟨w.heap.size + 1, 2, none⟩ = some (.int .u8 0) := cell_of_row _ _ 2 _ _ _ (unhide HD3)
    have f0 : w6.frozen? ⟨w.heap.size + 1, 0, none⟩ = false := frozen_of_row _ _ _ _ _ (unhide HD3)
    have f1 : w6.frozen? ⟨w.heap.size + 1, 1, none⟩ = false := frozen_of_row _ _ _ _ _ (unhide HD3)
    have f2 : w6.frozen? ⟨w.heap.size + 1, 2, none⟩ = false := frozen_of_row _ _ _ _ _ (unhide HD3)
    cases X with
    | false =>
      have HLE : Hid (loadE A = 50) := unhide HE0
      have HLH : Hid (loadH A = ⟨0, 0, 0⟩) := unhide HZ0 rfl
      go_wp2_with fail
      refine bodyPost_ret (results_ct rfl _ _ _ _ _ _ _ rfl (set3_heap (unhide HD3) _ _ _) Try.underlying24 rfl (by kernel_rfl)) rfl ?_
      exact ⟨by rw [unhide HLH, unhide HLE]; rfl, set3_below (unhide HB6) (by omega) _ _ _⟩
    | true =>
      have HLE : Hid (loadE A = 0) := unhide HE0
      have HLH : Hid (loadH A = ⟨S, E, L⟩) := unhide HH0
      go_wp2_with fail
      refine bodyPost_ret (results_ct rfl _ _ _ _ _ _ _ rfl (set3_heap (unhide HD3) _ _ _) Try.underlying24 rfl (by kernel_rfl)) rfl ?_
      exact ⟨by rw [unhide HLH, unhide HLE]; rfl, set3_below (unhide HB6) (by omega) _ _ _⟩
end Go.Proofs.Ytoabpjdpdcpdlaa

namespace Go.Proofs.Ytoabpjdpdcpdlaa
open Go.RowKit

set_option maxRecDepth 100000 in
set_option maxHeartbeats 8000000 in
theorem sameDisk_any (A : AD) (w : World) (p : Nat) (D : Nat → Prop) (v : Nat → Value) (B : Nat → Prop) (cs : Array Value) (hD : DiskIs w p D v A) (hV : RefV w B A cs) :
    Calls Try.prog 29 #[.pointer (some ⟨p, 0, none⟩), .agg cs] w fun x w' => x = .returned (.bool true) ∧ Below w.heap.size w w' := by
  have HOK := hide hD.ok
  obtain ⟨w1, hw1⟩ : ∃ w1, w1 = w.alloc (.cells cs 43) := ⟨_, rfl⟩
  have hb1 : Below w.heap.size w w1 := by rw [hw1]; exact (Below.refl _ w).alloc (Nat.le_refl _) _
  have hd1 : w1.heap[w.heap.size]? = some (.cells cs 43 (0, 0)) := by rw [hw1]; exact heap_alloc_new w _
  have HV1 := hide (hV.later hb1)
  have HDI : Hid (DiskIs w1 p D v A) := hD.kept hb1.size fun k hk => hb1.block k (hD.lt k hk)
  have hdc := (unhide HV1).deadCell hd1
  have HB1 := hide hb1
  obtain ⟨v0, v1, v2, v3, v4, v5, v6, v7, v8, v9, v10, v11, v12, rfl⟩ := arr13 hV.shape.1
  have e12 : v12 = .bool A.dead := by rw [cell_of_row _ _ 12 _ _ _ hd1] at hdc; exact Option.some.inj hdc
  subst e12
  have HKS : Hid (∀ W, Below w1.heap.size w1 W → W.cell? ⟨w.heap.size, 0, none⟩ = some v0 ∧ W.cell? ⟨w.heap.size, 1, none⟩ = some v1 ∧ W.cell? ⟨w.heap.size, 2, none⟩ = some v2 ∧ W.cell? ⟨w.heap.size, 3, none⟩ = some v3 ∧ W.cell? ⟨w.heap.size, 4, none⟩ = some v4 ∧ W.cell? ⟨w.heap.size, 5, none⟩ = some v5 ∧ W.cell? ⟨w.heap.size, 6, none⟩ = some v6 ∧ W.cell? ⟨w.heap.size, 7, none⟩ = some v7 ∧ W.cell? ⟨w.heap.size, 8, none⟩ = some v8 ∧ W.cell? ⟨w.heap.size, 9, none⟩ = some v9 ∧ W.cell? ⟨w.heap.size, 10, none⟩ = some v10 ∧ W.cell? ⟨w.heap.size, 11, none⟩ = some v11 ∧ W.cell? ⟨w.heap.size, 12, none⟩ = some (.bool A.dead) ∧ Below w1.heap.size w1 W) := fun W hb => by
    have h13 := row13 ((hb.block _ (Array.getElem?_eq_some_iff.1 hd1).1).trans hd1)
    obtain ⟨z0, z1, z2, z3, z4, z5, z6, z7, z8, z9, z10, z11, z12⟩ := h13
    exact ⟨z0, z1, z2, z3, z4, z5, z6, z7, z8, z9, z10, z11, z12, hb⟩
  clear hV hD hb1 hd1 hdc
  generalize hdd : A.dead = dd at *
  have HDD := hide hdd
  clear hdd
  go_enter Try.func29, Try.ntmps29
  go_upto_region 1 with fail
  rw [← hw1]
  clear hw1
  go_wp2_with fail
  go_loopw [6] (fun i W => ∃ j : Nat, j ≤ 2 ∧ i = .int .i64 ((j : Nat) : Int) ∧ Below w1.heap.size w1 W) (fun i _ => 2 - (intOf i).toNat)
  case atStart => exact ⟨0, by omega, rfl, Below.refl _ _⟩
  case round =>
    obtain ⟨j, hj, rfl, hBr⟩ := hrel
    obtain ⟨y0, y1, y2, y3, y4, y5, y6, y7, y8, y9, y10, y11, y12, _⟩ := unhide HKS _ hBr
    by_cases hlt : j < 2
    · have m1 : (j : Int) < 2 := by omega
      have tok1 : True := trivial
      have hwj : IntKind.i64.wrap ((j : Int) + 1) = ((j : Int) + 1) := by rw [IntKind.wrap_i64]; omega
      go_upto_region 4 with fail
      go_cut [26] (fun v wx => v = .bool false ∧ Below w1.heap.size w1 wx)
      case first =>
        go_region_held3 (fun W => W.cell? ⟨w.heap.size, 0, none⟩ = some v0 ∧ W.cell? ⟨w.heap.size, 1, none⟩ = some v1 ∧ W.cell? ⟨w.heap.size, 2, none⟩ = some v2 ∧ W.cell? ⟨w.heap.size, 3, none⟩ = some v3 ∧ W.cell? ⟨w.heap.size, 4, none⟩ = some v4 ∧ W.cell? ⟨w.heap.size, 5, none⟩ = some v5 ∧ W.cell? ⟨w.heap.size, 6, none⟩ = some v6 ∧ W.cell? ⟨w.heap.size, 7, none⟩ = some v7 ∧ W.cell? ⟨w.heap.size, 8, none⟩ = some v8 ∧ W.cell? ⟨w.heap.size, 9, none⟩ = some v9 ∧ W.cell? ⟨w.heap.size, 10, none⟩ = some v10 ∧ W.cell? ⟨w.heap.size, 11, none⟩ = some v11 ∧ W.cell? ⟨w.heap.size, 12, none⟩ = some (.bool dd) ∧ Below w1.heap.size w1 W)
          ((refine unhide HKS _ ?_; first | assumption | exact hBr.drew | exact (Below.refl _ _).drew))
          (first
            | (go_at_call 48; refine (dRead ((unhide HDI).kept (by assumption : _ ∧ _ ∧ _ ∧ _ ∧ _ ∧ _ ∧ _ ∧ _ ∧ _ ∧ _ ∧ _ ∧ _ ∧ _ ∧ Below w1.heap.size w1 _).2.2.2.2.2.2.2.2.2.2.2.2.2.size fun k hk => (by assumption : _ ∧ _ ∧ _ ∧ _ ∧ _ ∧ _ ∧ _ ∧ _ ∧ _ ∧ _ ∧ _ ∧ _ ∧ _ ∧ Below w1.heap.size w1 _).2.2.2.2.2.2.2.2.2.2.2.2.2.block k ((unhide HDI).lt k hk)) ((j : Nat) : Int)).mono ?_; rintro x w3 ⟨q0, rfl, hF⟩; have hBA := (by assumption : _ ∧ _ ∧ _ ∧ _ ∧ _ ∧ _ ∧ _ ∧ _ ∧ _ ∧ _ ∧ _ ∧ _ ∧ _ ∧ Below w1.heap.size w1 _).2.2.2.2.2.2.2.2.2.2.2.2.2.trans (hF.1.2.2.mono (by assumption : _ ∧ _ ∧ _ ∧ _ ∧ _ ∧ _ ∧ _ ∧ _ ∧ _ ∧ _ ∧ _ ∧ _ ∧ _ ∧ Below w1.heap.size w1 _).2.2.2.2.2.2.2.2.2.2.2.2.2.size); have hq0 := hF.1.1; clear hF)
            | (go_at_call 49; refine (mRead ((unhide HV1).later (by assumption : _ ∧ _ ∧ _ ∧ _ ∧ _ ∧ _ ∧ _ ∧ _ ∧ _ ∧ _ ∧ _ ∧ _ ∧ _ ∧ Below w1.heap.size w1 _).2.2.2.2.2.2.2.2.2.2.2.2.2) (unhide HOK) ((j : Nat) : Int)).mono ?_; rintro x w4 ⟨q1, rfl, hq1, hb4⟩; have hBB := (by assumption : _ ∧ _ ∧ _ ∧ _ ∧ _ ∧ _ ∧ _ ∧ _ ∧ _ ∧ _ ∧ _ ∧ _ ∧ _ ∧ Below w1.heap.size w1 _).2.2.2.2.2.2.2.2.2.2.2.2.2.trans (hb4.mono (by assumption : _ ∧ _ ∧ _ ∧ _ ∧ _ ∧ _ ∧ _ ∧ _ ∧ _ ∧ _ ∧ _ ∧ _ ∧ _ ∧ Below w1.heap.size w1 _).2.2.2.2.2.2.2.2.2.2.2.2.2.size); have hq0b := hq0.kept (fun k _ hk => hb4.block k hk); clear hb4)
            | (have _t := tok1; go_at_call 16; clear tok1; refine (low_same q0 q1 (rd A j) (rd A j) _ hq0b hq1).mono ?_; rintro x w5 ⟨rfl, rfl⟩; rw [decide_eq_true rfl])
            | (go_at_call 30; refine (dHead ((unhide HDI).kept (by assumption : _ ∧ _ ∧ _ ∧ _ ∧ _ ∧ _ ∧ _ ∧ _ ∧ _ ∧ _ ∧ _ ∧ _ ∧ _ ∧ Below w1.heap.size w1 _).2.2.2.2.2.2.2.2.2.2.2.2.2.size fun k hk => (by assumption : _ ∧ _ ∧ _ ∧ _ ∧ _ ∧ _ ∧ _ ∧ _ ∧ _ ∧ _ ∧ _ ∧ _ ∧ _ ∧ Below w1.heap.size w1 _).2.2.2.2.2.2.2.2.2.2.2.2.2.block k ((unhide HDI).lt k hk)) ((j : Nat) : Int)).mono ?_; rintro x w6 ⟨q2, rfl, hF⟩; have hBC := (by assumption : _ ∧ _ ∧ _ ∧ _ ∧ _ ∧ _ ∧ _ ∧ _ ∧ _ ∧ _ ∧ _ ∧ _ ∧ _ ∧ Below w1.heap.size w1 _).2.2.2.2.2.2.2.2.2.2.2.2.2.trans (hF.1.2.2.mono (by assumption : _ ∧ _ ∧ _ ∧ _ ∧ _ ∧ _ ∧ _ ∧ _ ∧ _ ∧ _ ∧ _ ∧ _ ∧ _ ∧ Below w1.heap.size w1 _).2.2.2.2.2.2.2.2.2.2.2.2.2.size); have hq2 := hF.1.1; clear hF)
            | (go_at_call 41; refine (mHead ((unhide HV1).later (by assumption : _ ∧ _ ∧ _ ∧ _ ∧ _ ∧ _ ∧ _ ∧ _ ∧ _ ∧ _ ∧ _ ∧ _ ∧ _ ∧ Below w1.heap.size w1 _).2.2.2.2.2.2.2.2.2.2.2.2.2) (unhide HOK) ((j : Nat) : Int)).mono ?_; rintro x w7 ⟨q3, rfl, hq3, hb7⟩; have hBD := (by assumption : _ ∧ _ ∧ _ ∧ _ ∧ _ ∧ _ ∧ _ ∧ _ ∧ _ ∧ _ ∧ _ ∧ _ ∧ _ ∧ Below w1.heap.size w1 _).2.2.2.2.2.2.2.2.2.2.2.2.2.trans (hb7.mono (by assumption : _ ∧ _ ∧ _ ∧ _ ∧ _ ∧ _ ∧ _ ∧ _ ∧ _ ∧ _ ∧ _ ∧ _ ∧ _ ∧ Below w1.heap.size w1 _).2.2.2.2.2.2.2.2.2.2.2.2.2.size); have hq2b := hq2.kept (fun k _ hk => hb7.block k hk); clear hb7)
            | (go_at_call 16; refine (low_same q2 q3 (hdOf A j) (hdOf A j) _ hq2b hq3).mono ?_; rintro x w8 ⟨rfl, rfl⟩; rw [decide_eq_true rfl]))
        all_goals (
          go_wp2_with fail
          go_meet
          exact ⟨rfl, hBD⟩)
      obtain ⟨rfl, hB⟩ := hcut
      clear y0 y1 y2 y3 y4 y5 y6 y7 y8 y9 y10 y11 y12
      go_wp2_with fail
      exact ⟨⟨j + 1, by omega, by go_num, hB⟩, by simp [intOf]; omega⟩
    · have ej : j = 2 := by omega
      subst ej
      go_upto_region 7 with fail
      go_cut [4] (fun v wx => v = .bool true ∧ Below w1.heap.size w1 wx)
      case first =>
        go_region_held3 (fun W => W.cell? ⟨w.heap.size, 0, none⟩ = some v0 ∧ W.cell? ⟨w.heap.size, 1, none⟩ = some v1 ∧ W.cell? ⟨w.heap.size, 2, none⟩ = some v2 ∧ W.cell? ⟨w.heap.size, 3, none⟩ = some v3 ∧ W.cell? ⟨w.heap.size, 4, none⟩ = some v4 ∧ W.cell? ⟨w.heap.size, 5, none⟩ = some v5 ∧ W.cell? ⟨w.heap.size, 6, none⟩ = some v6 ∧ W.cell? ⟨w.heap.size, 7, none⟩ = some v7 ∧ W.cell? ⟨w.heap.size, 8, none⟩ = some v8 ∧ W.cell? ⟨w.heap.size, 9, none⟩ = some v9 ∧ W.cell? ⟨w.heap.size, 10, none⟩ = some v10 ∧ W.cell? ⟨w.heap.size, 11, none⟩ = some v11 ∧ W.cell? ⟨w.heap.size, 12, none⟩ = some (.bool dd) ∧ Below w1.heap.size w1 W)
          ((refine unhide HKS _ ?_; first | assumption | exact hBr.drew | exact (Below.refl _ _).drew))
          (first
            | (go_at_call 50; refine (dFree ((unhide HDI).kept (by assumption : _ ∧ _ ∧ _ ∧ _ ∧ _ ∧ _ ∧ _ ∧ _ ∧ _ ∧ _ ∧ _ ∧ _ ∧ _ ∧ Below w1.heap.size w1 _).2.2.2.2.2.2.2.2.2.2.2.2.2.size fun k hk => (by assumption : _ ∧ _ ∧ _ ∧ _ ∧ _ ∧ _ ∧ _ ∧ _ ∧ _ ∧ _ ∧ _ ∧ _ ∧ _ ∧ Below w1.heap.size w1 _).2.2.2.2.2.2.2.2.2.2.2.2.2.block k ((unhide HDI).lt k hk))).mono ?_; rintro x w3 ⟨rfl, rfl⟩)
            | (go_at_call 51; refine (mFree ((unhide HV1).later (by assumption : _ ∧ _ ∧ _ ∧ _ ∧ _ ∧ _ ∧ _ ∧ _ ∧ _ ∧ _ ∧ _ ∧ _ ∧ _ ∧ Below w1.heap.size w1 _).2.2.2.2.2.2.2.2.2.2.2.2.2) (unhide HOK)).mono ?_; rintro x w4 ⟨rfl, hb4⟩; have hBB := (by assumption : _ ∧ _ ∧ _ ∧ _ ∧ _ ∧ _ ∧ _ ∧ _ ∧ _ ∧ _ ∧ _ ∧ _ ∧ _ ∧ Below w1.heap.size w1 _).2.2.2.2.2.2.2.2.2.2.2.2.2.trans (hb4.mono (by assumption : _ ∧ _ ∧ _ ∧ _ ∧ _ ∧ _ ∧ _ ∧ _ ∧ _ ∧ _ ∧ _ ∧ _ ∧ _ ∧ Below w1.heap.size w1 _).2.2.2.2.2.2.2.2.2.2.2.2.2.size); clear hb4)
            | (go_at_call 40; refine (dead_any ((unhide HDI).kept (by assumption : _ ∧ _ ∧ _ ∧ _ ∧ _ ∧ _ ∧ _ ∧ _ ∧ _ ∧ _ ∧ _ ∧ _ ∧ _ ∧ Below w1.heap.size w1 _).2.2.2.2.2.2.2.2.2.2.2.2.2.size fun k hk => (by assumption : _ ∧ _ ∧ _ ∧ _ ∧ _ ∧ _ ∧ _ ∧ _ ∧ _ ∧ _ ∧ _ ∧ _ ∧ _ ∧ Below w1.heap.size w1 _).2.2.2.2.2.2.2.2.2.2.2.2.2.block k ((unhide HDI).lt k hk))).mono ?_; rintro x w5 ⟨rfl, rfl⟩; rw [unhide HDD]))
        all_goals (
          go_wp2_with fail
          go_meet
          exact ⟨by simp, hBB⟩)
      obtain ⟨rfl, hB⟩ := hcut
      have HFIN : Hid (Below w.heap.size w wc) := (unhide HB1).trans (hB.mono (unhide HB1).size)
      clear hB y0 y1 y2 y3 y4 y5 y6 y7 y8 y9 y10 y11 y12
      go_wp2_with fail
      go_ret
      exact ⟨rfl, unhide HFIN⟩
end Go.Proofs.Ytoabpjdpdcpdlaa

namespace Go.Proofs.Ytoabpjdpdcpdlaa
open Go.RowKit

/-- Both disks as they are made. -/
theorem TW.begin5 {w w1 w2 : World} {c : Int} {cs z : Array Value} {p q : Nat} {v : Nat → Value} (hp : p = w.heap.size) (hq : q = w2.heap.size) (hD : DiskIs w1 p (fun k => k = p) v (AD.new c)) (hs1 : w1.heap.size = p + 1) (hb1 : Below p w w1) (hV : RefV w2 (fun b => w1.heap.size ≤ b) (AD.new c) cs) (hb2 : Below w1.heap.size w1 w2) :
    TW w p q (fun _ => False) cs (AD.new c) (AD.new c) ((w2.alloc (.cells z 43)).setRow q cs) := by
  have s2 := hb2.size
  have hr : (w2.alloc (.cells z 43)).heap[q]? = some (.cells z 43 (0, 0)) := by rw [hq]; exact heap_alloc_new w2 _
  have hk : ∀ b, b < w2.heap.size → ((w2.alloc (.cells z 43)).setRow q cs).heap[b]? = w2.heap[b]? := fun b hb => by rw [setRow_other _ _ _ _ (by omega), Below.heap_alloc _ _ _ hb]
  have hsz : ((w2.alloc (.cells z 43)).setRow q cs).heap.size = w2.heap.size + 1 := by simp [World.setRow]
  refine ⟨fun k => k = p, v, hD.kept (by omega) fun k hk' => ?_, fun k hk' => ?_, ?_, by omega, setRow_heap _ _ _ _ _ _ hr, hV.move fun b hlt hb => ⟨hk b hlt, ?_, by omega, fun h => h⟩, fun b h => h.elim, ?_⟩
  · have e : k = p := hk'
    rw [hk k (by omega), hb2.block k (by omega)]
  · have e : k = p := hk'
    omega
  · show ¬ q = p; omega
  · show ¬ b = p; omega
  · have h0 : Below w.heap.size w (w2.alloc (.cells z 43)) := Below.alloc (Below.trans (hp ▸ hb1) (hb2.mono (by omega))) (by omega) _
    exact h0.trans ⟨rfl, rfl, rfl, by simp [World.setRow], fun k hk => setRow_other _ _ _ _ (by omega)⟩

/-- Both disks, and blocks M that are neither's. -/
structure Tk (w0 : World) (p q : Nat) (M : List (Nat × Obj)) (cs : Array Value) (A A2 : AD) (W : World) : Prop where
  tw : TW w0 p q (fun b => ∃ x ∈ M, b = x.1) cs A A2 W
  ce : ∀ x ∈ M, W.heap[x.1]? = some x.2
section
variable {w0 W W' : World} {p q : Nat} {M : List (Nat × Obj)} {cs cs' : Array Value} {A A2 A' : AD}
theorem Tk.start (h : TW w0 p q (fun _ => False) cs A A2 W) : Tk w0 p q [] cs A A2 W :=
  ⟨h.fewer _ fun b ⟨x, hx, _⟩ => (by cases hx), fun x hx => (by cases hx)⟩
theorem Tk.bare (h : Tk w0 p q M cs A A2 W) : TW w0 p q (fun _ => False) cs A A2 W := h.tw.fewer _ fun _ hb => hb.elim
theorem Tk.later (h : Tk w0 p q M cs A A2 W) (hb : Below W.heap.size W W') : Tk w0 p q M cs A A2 W' :=
  ⟨h.tw.later hb, fun x hx => (hb.block _ (Array.getElem?_eq_some_iff.1 (h.ce x hx)).1).trans (h.ce x hx)⟩
theorem Tk.new (h : Tk w0 p q M cs A A2 W) (o : Obj) : Tk w0 p q ((W.heap.size, o) :: M) cs A A2 (W.alloc o) := by
  have hb : Below W.heap.size W (W.alloc o) := (Below.refl _ W).alloc (Nat.le_refl _) o
  refine ⟨h.tw.grow hb _ fun b ⟨x, hx, e⟩ => ?_, fun x hx => ?_⟩
  · rcases List.mem_cons.1 hx with e2 | e2
    · exact .inr ⟨by rw [e, e2]; exact Nat.le_refl _, by rw [e, e2]; simp⟩
    · exact .inl ⟨x, e2, e⟩
  · rcases List.mem_cons.1 hx with e | e
    · rw [e]; exact heap_alloc_new W _
    · exact (h.later hb).ce x e
theorem Tk.less {M' : List (Nat × Obj)} (h : Tk w0 p q M cs A A2 W) (hs : ∀ x ∈ M', x ∈ M) : Tk w0 p q M' cs A A2 W :=
  ⟨h.tw.fewer _ fun _ ⟨x, hx, e⟩ => ⟨x, hs x hx, e⟩, fun x hx => h.ce x (hs x hx)⟩
theorem Tk.cell (h : Tk w0 p q M cs A A2 W) {g : Nat} {vs : Array Value} {t : TypeId} (hm : (g, Obj.cells vs t (0, 0)) ∈ M) (k : Nat) : W.cell? ⟨g, k, none⟩ = vs[k]? := cell_of_row _ _ k _ _ _ (h.ce _ hm)
theorem Tk.frozen (h : Tk w0 p q M cs A A2 W) {g : Nat} {vs : Array Value} {t : TypeId} (hm : (g, Obj.cells vs t (0, 0)) ∈ M) (k : Nat) : W.frozen? ⟨g, k, none⟩ = false := frozen_of_row _ _ _ _ _ (h.ce _ hm)
theorem Tk.set {g : Nat} {vs : Array Value} {t : TypeId} (h : Tk w0 p q ((g, Obj.cells vs t (0, 0)) :: M) cs A A2 W) (hne : ∀ x ∈ M, x.1 ≠ g) (k : Nat) (u : Value) : Tk w0 p q ((g, Obj.cells (vs.setIfInBounds k u) t (0, 0)) :: M) cs A A2 (W.setCell ⟨g, k, none⟩ u) := by
  refine ⟨(h.tw.scratch (g := g) ⟨_, List.mem_cons_self .., rfl⟩ u k).fewer _ fun b ⟨x, hx, e⟩ => ?_, fun x hx => ?_⟩
  · rcases List.mem_cons.1 hx with e2 | e2
    · exact ⟨_, List.mem_cons_self .., by rw [e, e2]⟩
    · exact ⟨x, List.mem_cons_of_mem _ e2, e⟩
  · rcases List.mem_cons.1 hx with e | e
    · rw [e]; exact heap_setCell_same W g k _ _ u (h.ce (g, Obj.cells vs t (0, 0)) (List.mem_cons_self ..))
    · rw [Below.heap_setCell _ _ _ _ (hne x e)]; exact h.ce x (List.mem_cons_of_mem _ e)
theorem Tk.set3 {g : Nat} {a b c : Value} {t : TypeId} (h : Tk w0 p q ((g, Obj.cells #[a, b, c] t (0, 0)) :: M) cs A A2 W) (hne : ∀ x ∈ M, x.1 ≠ g) (x y z : Value) : Tk w0 p q ((g, Obj.cells #[x, y, z] t (0, 0)) :: M) cs A A2 (((W.setCell ⟨g, 0, none⟩ x).setCell ⟨g, 1, none⟩ y).setCell ⟨g, 2, none⟩ z) :=
  ((h.set hne 0 x).set hne 1 y).set hne 2 z
theorem Tk.disk (h : Tk w0 p q M cs A A2 W) : ∃ D v, DiskIs W p D v A ∧ ∀ A' W', Now D p A' W W' → Tk w0 p q M cs A' A2 W' := by
  obtain ⟨D, v, h1, _, h3⟩ := h.tw.disk
  refine ⟨D, v, h1, fun A' W' hn => ⟨(h3 A' W' hn).1, fun x hx => ?_⟩⟩
  exact ((h3 A' W' hn).2 x.1 ⟨x, hx, rfl⟩).trans (h.ce x hx)
theorem Tk.row (h : Tk w0 p q M cs A A2 W) : W.heap[q]? = some (.cells cs 43 (0, 0)) := h.tw.row
theorem Tk.size (h : Tk w0 p q M cs A A2 W) : (Try.prog.info? 43).map (·.size) = some cs.size := by rw [h.tw.size]; kernel_rfl
/-- What the document's disk answered can be stored. -/
structure St5 (w0 : World) (p q : Nat) (M : List (Nat × Obj)) (cs : Array Value) (A A' : AD) (cs' : Array Value) (W' : World) : Prop where
  old : W'.heap[q]? = some (.cells cs 43 (0, 0))
  size : (Try.prog.info? 43).map (·.size) = some cs'.size
  same : cs.size = cs'.size
  one : cs'.all (·.oneCell') = true
  next : Tk w0 p q M cs' A A' (W'.setRow q cs')
theorem Tk.ref (h : Tk w0 p q M cs A A2 W) : ∃ B, RefV W B A2 cs ∧ (∀ b, W.heap.size ≤ b → B b) ∧ ∀ A' cs' W', RefV W' B A' cs' → Below W.heap.size W W' → St5 w0 p q M cs A A' cs' W' := by
  obtain ⟨B, h1, h2, h3⟩ := h.tw.ref
  refine ⟨B, h1, h2, fun A' cs' W' hV hb => ?_⟩
  obtain ⟨s1, _, s3, s4, _⟩ := h3 A' cs' W' hV hb
  exact ⟨(h.later hb).row, hV.size, by rw [h.tw.size, s1], hV.shape.2, s3, fun x hx => (s4 x.1 ⟨x, hx, rfl⟩).trans (h.ce x hx)⟩

theorem tkSave (ho : HeadOk) (h : Tk w0 p q M cs A A2 W) (s e l : Nat) (hf : (HeadD.mk s e l).fits) :
    Calls Try.prog 21 #[.pointer (some ⟨p, 0, none⟩), .agg #[.int .u64 ((s : Nat) : Int), .int .u64 ((e : Nat) : Int), .int .u8 ((l : Nat) : Int)]] W fun x W' => x = .returned (.tuple #[(saveH A ⟨s, e, l⟩).val, .int .i64 (saveE A ⟨s, e, l⟩)]) ∧ Tk w0 p q M cs (saveD A ⟨s, e, l⟩) A2 W' := by
  obtain ⟨D, v, h1, h2⟩ := h.disk
  exact (ho.save D p A W W s e l (Now.start h1) hf).mono fun x W' ⟨hx, hn⟩ => ⟨hx, h2 _ _ hn⟩
theorem tkLoad (ho : HeadOk) (h : Tk w0 p q M cs A A2 W) : Calls Try.prog 23 #[.pointer (some ⟨p, 0, none⟩)] W fun x W' => x = .returned (.tuple #[(loadH A).val, .int .i64 (loadE A)]) ∧ Tk w0 p q M cs A A2 W' := by
  obtain ⟨D, v, h1, h2⟩ := h.disk
  exact (ho.load D p A W W (Now.start h1)).mono fun x W' ⟨hx, hn⟩ => ⟨hx, h2 _ _ hn⟩
theorem tkRefSave (h : Tk w0 p q M cs A A2 W) (hok : A2.Ok) (s e l : Nat) (hf : (HeadD.mk s e l).fits) :
    Calls Try.prog 22 #[.agg cs, .agg #[.int .u64 ((s : Nat) : Int), .int .u64 ((e : Nat) : Int), .int .u8 ((l : Nat) : Int)]] W fun x W' => ∃ cs', x = .returned (.tuple #[.agg cs', (saveH A2 ⟨s, e, l⟩).val, .int .i64 (saveE A2 ⟨s, e, l⟩)]) ∧ St5 w0 p q M cs A (saveD A2 ⟨s, e, l⟩) cs' W' ∧ Tk w0 p q M cs A A2 W' := by
  obtain ⟨B, h1, h2, h3⟩ := h.ref
  exact (refSave_any A2 hok s e l hf W B cs h1 h2).mono fun x W' ⟨cs', hx, hV, hb⟩ => ⟨cs', hx, h3 _ _ _ hV hb, h.later hb⟩
theorem tkRefLoad (h : Tk w0 p q M cs A A2 W) (hok : A2.Ok) : Calls Try.prog 24 #[.agg cs] W fun x W' => x = .returned (.tuple #[(loadH A2).val, .int .i64 (loadE A2)]) ∧ Tk w0 p q M cs A A2 W' := by
  obtain ⟨B, h1, _, _⟩ := h.ref
  exact (refLoad_any A2 hok W B cs h1).mono fun x W' ⟨hx, hb⟩ => ⟨hx, h.later hb⟩
theorem tkFuse (h : Tk w0 p q M cs A A2 W) {s m : Int} (hf : DskF 25 A A' s m) : Calls Try.prog 25 #[.pointer (some ⟨p, 0, none⟩), .int .i64 s, .int .i64 m] W fun x W' => x = .returned (.tuple #[]) ∧ Tk w0 p q M cs A' A2 W' := by
  obtain ⟨D, v, h1, h2⟩ := h.disk
  exact (hf W D v p h1).mono fun x W' ⟨hx, hn⟩ => ⟨hx, h2 _ _ hn⟩
theorem tkRefFuse (h : Tk w0 p q M cs A A2 W) {s m : Int} (hf : RefF 26 A2 A' s m) : Calls Try.prog 26 #[.agg cs, .int .i64 s, .int .i64 m] W fun x W' => ∃ cs', x = .returned (.agg cs') ∧ St5 w0 p q M cs A A' cs' W' := by
  obtain ⟨B, h1, h2, h3⟩ := h.ref
  exact (hf W B cs h1 h2).mono fun x W' ⟨cs', hx, hV, hb⟩ => ⟨cs', hx, h3 _ _ _ hV hb⟩
theorem tkCrash (h : Tk w0 p q M cs A A2 W) {a b c d : Int} (hf : DskC 27 A A' a b c d) : Calls Try.prog 27 #[.pointer (some ⟨p, 0, none⟩), .agg #[.int .i64 a, .int .i64 b, .int .i64 c, .int .i64 d]] W fun x W' => x = .returned (.tuple #[]) ∧ Tk w0 p q M cs A' A2 W' := by
  obtain ⟨D, v, h1, h2⟩ := h.disk
  exact (hf W D v p h1).mono fun x W' ⟨hx, hn⟩ => ⟨hx, h2 _ _ hn⟩
theorem tkRefCrash (h : Tk w0 p q M cs A A2 W) {a b c d : Int} (hf : RefC 28 A2 A' a b c d) : Calls Try.prog 28 #[.agg cs, .agg #[.int .i64 a, .int .i64 b, .int .i64 c, .int .i64 d]] W fun x W' => ∃ cs', x = .returned (.agg cs') ∧ St5 w0 p q M cs A A' cs' W' := by
  obtain ⟨B, h1, h2, h3⟩ := h.ref
  exact (hf W B cs h1 h2).mono fun x W' ⟨cs', hx, hV, hb⟩ => ⟨cs', hx, h3 _ _ _ hV hb⟩
theorem tkSame (h : Tk w0 p q M cs A A W) : Calls Try.prog 29 #[.pointer (some ⟨p, 0, none⟩), .agg cs] W fun x W' => x = .returned (.bool true) ∧ Tk w0 p q M cs A A W' := by
  obtain ⟨D, v, h1, _⟩ := h.disk
  obtain ⟨B, h2, _, _⟩ := h.ref
  exact (sameDisk_any A W p D v B cs h1 h2).mono fun x W' ⟨hx, hb⟩ => ⟨hx, h.later hb⟩
theorem Tk.ok (h : Tk w0 p q M cs A A2 W) : A.Ok := h.tw.ok
end
end Go.Proofs.Ytoabpjdpdcpdlaa
