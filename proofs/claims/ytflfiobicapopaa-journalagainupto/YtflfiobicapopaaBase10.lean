/- HeadImplC, HeadImplR, HeadImplP, HeadImplS: our own definitions and contracts; no statement of the seat is proved here. -/
import Derived.Test.YtflfiobicapopaaBase09
import Derived.Stop.BytesEq
import Derived.Test.YtflfiobicapopaaBase04
namespace Go.Proofs.Ytflfiobicapopaa
open Go.RowKit

theorem hBytes_no (s e l : Nat) (w : World) (hf : (HeadD.mk s e l).fits) (hr : (HeadD.mk s e l).right = false) : Calls Try.prog 85 #[.agg #[.int .u64 ((s : Nat) : Int), .int .u64 ((e : Nat) : Int), .int .u8 ((l : Nat) : Int)]] w fun e' w' => e' = .returned (.tuple #[.slice none 0 0, .int .i64 50]) ∧ Below w.heap.size w w' := by
  have HB := hide ((Below.refl _ w).alloc (Nat.le_refl _) (.cells #[.int .u64 ((s : Nat) : Int), .int .u64 ((e : Nat) : Int), .int .u8 ((l : Nat) : Int)] 37))
  have HR := hide hr
  have HF := hide hf
  clear hr hf
  go_enter Try.func85, Try.ntmps85
  go_wp2_with fail
  refine (hRight_any s e l _ (unhide HF)).mono ?_
  rintro e' w1 ⟨rfl, hb1⟩
  have HB1 : Hid (Below w.heap.size w w1) := (unhide HB).trans (hb1.mono (unhide HB).size)
  clear hb1 HB
  rw [unhide HR]
  go_wp2_with fail
  go_ret2
  exact ⟨rfl, unhide HB1⟩

/-- The bytes lie in a new array. -/
theorem Arr.stored {w0 X : World} {g : Nat} {bs : List UInt8} (hb : Below w0.heap.size w0 X) (hg : X.heap.size = g) : Arr w0 g bs ((X.alloc (.cells #[.int .u8 0, .int .u8 0, .int .u8 0, .int .u8 0, .int .u8 0, .int .u8 0, .int .u8 0, .int .u8 0, .int .u8 0, .int .u8 0, .int .u8 0, .int .u8 0, .int .u8 0, .int .u8 0, .int .u8 0, .int .u8 0, .int .u8 0, .int .u8 0, .int .u8 0, .int .u8 0, .int .u8 0, .int .u8 0, .int .u8 0, .int .u8 0, .int .u8 0, .int .u8 0, .int .u8 0, .int .u8 0, .int .u8 0, .int .u8 0, .int .u8 0, .int .u8 0] 72)).setRow g (bs.map bv).toArray) := by
  subst hg
  refine ⟨setRow_heap _ _ _ _ _ _ (heap_alloc_new X _), hb.size, ?_⟩
  exact (hb.alloc hb.size _).trans (below_setRow _ _ _ hb.size)

set_option maxRecDepth 100000 in
set_option maxHeartbeats 4000000 in
theorem hBytes_ok (s e l : Nat) (w : World) (hf : (HeadD.mk s e l).fits) (hr : (HeadD.mk s e l).right = true) : Calls Try.prog 85 #[.agg #[.int .u64 ((s : Nat) : Int), .int .u64 ((e : Nat) : Int), .int .u8 ((l : Nat) : Int)]] w fun e' w' => ∃ g, e' = .returned (.tuple #[.slice (some ⟨g, 0, none⟩) 32 32, .int .i64 0]) ∧ Arr w g (HeadD.mk s e l).bytes w' := by
  have HB := hide ((Below.refl _ w).alloc (Nat.le_refl _) (.cells #[.int .u64 ((s : Nat) : Int), .int .u64 ((e : Nat) : Int), .int .u8 ((l : Nat) : Int)] 37))
  have HX : Hid ((w.alloc (.cells #[.int .u64 ((s : Nat) : Int), .int .u64 ((e : Nat) : Int), .int .u8 ((l : Nat) : Int)] 37)).heap[w.heap.size]? = some (.cells #[.int .u64 ((s : Nat) : Int), .int .u64 ((e : Nat) : Int), .int .u8 ((l : Nat) : Int)] 37 (0, 0))) := heap_alloc_new w _
  have HR := hide hr
  have HF := hide hf
  have HL := hide (HeadD.mk s e l).bytes_len
  obtain ⟨bs, hbs⟩ : ∃ bs, (HeadD.mk s e l).bytes = bs := ⟨_, rfl⟩
  rw [hbs] at HL ⊢
  have HBS := hide hbs
  clear hr hf hbs
  go_enter Try.func85, Try.ntmps85
  go_wp2_with fail
  refine (hRight_any s e l _ (unhide HF)).mono ?_
  rintro e' w1 ⟨rfl, hb1⟩
  have HB1 : Hid (Below w.heap.size w w1) := (unhide HB).trans (hb1.mono (unhide HB).size)
  have hX1 := (hb1.block w.heap.size (by simp)).trans (unhide HX)
  have c0 : w1.cell? ⟨w.heap.size, 0, none⟩ = some (.int .u64 ((s : Nat) : Int)) := cell_of_row _ _ 0 _ _ _ hX1
  have c1 : w1.cell? ⟨w.heap.size, 1, none⟩ = some (.int .u64 ((e : Nat) : Int)) := cell_of_row _ _ 1 _ _ _ hX1
  have c2 : w1.cell? ⟨w.heap.size, 2, none⟩ = some (.int .u8 ((l : Nat) : Int)) := cell_of_row _ _ 2 _ _ _ hX1
  clear hb1 HB HX hX1
  rw [unhide HR]
  go_wp2_with fail
  refine (hLaid_any s e l _ (unhide HF)).mono ?_
  rintro e' w2 ⟨rfl, hb2⟩
  have HB2 : Hid (Below w.heap.size w w2) := (unhide HB1).trans (hb2.mono (unhide HB1).size)
  clear hb2 HB1 c0 c1 c2
  rw [unhide HBS]
  have HI : Hid ((Try.prog.info? 72).map (·.size) = some (bs.map bv).toArray.size) := by
    show _ = _
    rw [List.size_toArray, List.length_map, unhide HL]
    exact info32
  have HS : Hid ((#[.int .u8 0, .int .u8 0, .int .u8 0, .int .u8 0, .int .u8 0, .int .u8 0, .int .u8 0, .int .u8 0, .int .u8 0, .int .u8 0, .int .u8 0, .int .u8 0, .int .u8 0, .int .u8 0, .int .u8 0, .int .u8 0, .int .u8 0, .int .u8 0, .int .u8 0, .int .u8 0, .int .u8 0, .int .u8 0, .int .u8 0, .int .u8 0, .int .u8 0, .int .u8 0, .int .u8 0, .int .u8 0, .int .u8 0, .int .u8 0, .int .u8 0, .int .u8 0] : Array Value).size = (bs.map bv).toArray.size) := by
    have h2 : (bs.map bv).toArray.size = 32 := by rw [List.size_toArray, List.length_map]; exact unhide HL
    exact h2.symm
  have HN := hide (heap_alloc_new w2 (.cells #[.int .u8 0, .int .u8 0, .int .u8 0, .int .u8 0, .int .u8 0, .int .u8 0, .int .u8 0, .int .u8 0, .int .u8 0, .int .u8 0, .int .u8 0, .int .u8 0, .int .u8 0, .int .u8 0, .int .u8 0, .int .u8 0, .int .u8 0, .int .u8 0, .int .u8 0, .int .u8 0, .int .u8 0, .int .u8 0, .int .u8 0, .int .u8 0, .int .u8 0, .int .u8 0, .int .u8 0, .int .u8 0, .int .u8 0, .int .u8 0, .int .u8 0, .int .u8 0] 72))
  go_wp2_with (refine wpList_store_row rfl 72 (.tmp 4) (.tmp 9) rfl w2.heap.size (bs.map bv).toArray rfl rfl _ _ (unhide HN) (unhide HI) (unhide HS) (all_oneCell_toArray (bv_one _)) ?_)
  go_ret2
  exact ⟨_, rfl, Arr.stored (unhide HB2) rfl⟩

/-- Whatever head it is. -/
theorem hBytes_any (s e l : Nat) (w : World) (hf : (HeadD.mk s e l).fits) : Calls Try.prog 85 #[.agg #[.int .u64 ((s : Nat) : Int), .int .u64 ((e : Nat) : Int), .int .u8 ((l : Nat) : Int)]] w fun e' w' => ∃ v, e' = .returned (.tuple #[v, .int .i64 (hbErr ⟨s, e, l⟩)]) ∧ Bytes w' v (hbOf ⟨s, e, l⟩) ∧ Below w.heap.size w w' := by
  cases hr : (HeadD.mk s e l).right with
  | true =>
    rw [hbErr_ok hr, hbOf_ok hr]
    refine (hBytes_ok s e l w hf hr).mono ?_
    rintro e' w' ⟨g, rfl, hA⟩
    have hb := hA.bytes (o := 0) (n := 32) (c := 32) (by rw [HeadD.bytes_len]; omega) (Nat.le_refl _) (by decide)
    rw [List.drop_zero, List.take_of_length_le (by rw [HeadD.bytes_len]; omega)] at hb
    exact ⟨_, rfl, hb, hA.bb⟩
  | false =>
    rw [hbErr_no hr, hbOf_no hr]
    refine (hBytes_no s e l w hf hr).mono ?_
    rintro e' w' ⟨rfl, hb⟩
    exact ⟨_, rfl, .inl ⟨rfl, rfl⟩, hb⟩
end Go.Proofs.Ytflfiobicapopaa

namespace Go.Proofs.Ytflfiobicapopaa
open Go.RowKit

/-- A head is what its own bytes are, laid once more. -/
theorem isHead_laid {b : List UInt8} (hl : b.length = 32) : isHead b = ((headOf b).right && ((headOf b).bytes == b)) := by
  rw [Bool.eq_iff_iff, Bool.and_eq_true, beq_iff_eq]
  constructor
  · intro h
    obtain ⟨_, h2, h3⟩ := bytes_read h
    exact ⟨h2, h3⟩
  · rintro ⟨h1, h2⟩
    have hf : (headOf b).fits := ⟨le8_lt (by rw [List.length_take]; omega), le8_lt (by rw [List.length_take, List.length_drop]; omega), (b.getD 16 0).toNat_lt⟩
    have h3 := (read_bytes hf h1).1
    rwa [h2] at h3

/-- Two arrays of bytes, held against each other. -/
theorem equal32 (xs ys : List UInt8) (hx : xs.length = 32) (hy : ys.length = 32) (W : World) : (Op.equalIn 10000 72 (.agg (xs.map bv).toArray) (.agg (ys.map bv).toArray)).run Try.prog W = .ok (xs == ys) W :=
  run_equalIn_bytes W 9998 72 5 32 Try.underlying72 Try.underlying5 (fun w => by simp [sizeOf]; rfl) xs ys hx hy

/-- A row with other bytes from place o on. -/
def overB (bs : List UInt8) : Nat → List UInt8 → List UInt8
  | _, [] => bs
  | o, x :: xs => overB (bs.set o x) (o + 1) xs
theorem overB_behind (p q : List UInt8) : ∀ (xs : List UInt8), q.length = xs.length → overB (p ++ q) p.length xs = p ++ xs := by
  intro xs
  induction xs generalizing p q with
  | nil => intro h; rw [List.eq_nil_of_length_eq_zero h]; rfl
  | cons x xs ih =>
    intro h
    match q, h with
    | y :: q, h =>
      have e : (p ++ y :: q).set p.length x = (p ++ [x]) ++ q := by
        rw [List.set_append_right _ _ (Nat.le_refl _), Nat.sub_self]
        simp
      rw [overB, e]
      have h2 := ih (p ++ [x]) q (by simpa using h)
      rw [List.length_append, List.length_singleton] at h2
      rw [h2]
      simp
theorem Arr.over {w0 : World} {g : Nat} : ∀ (xs bs : List UInt8) (o : Nat) (W : World), Arr w0 g bs W → o + xs.length ≤ bs.length → Arr w0 g (overB bs o xs) (W.setCells g o (xs.map bv))
  | [], _, _, _, h, _ => h
  | x :: xs, bs, o, W, h, ho => by
    rw [List.length_cons] at ho
    have h2 := h.put (k := o) (by omega) x.toNat x.toNat_lt
    rw [UInt8.ofNat_toNat] at h2
    exact Arr.over xs (bs.set o x) (o + 1) (W.setCell ⟨g, o, none⟩ (bv x)) h2 (by rw [List.length_set]; omega)
theorem Arr.copied {w0 W : World} {g : Nat} {bs xs : List UInt8} (h : Arr w0 g bs W) (hl : bs.length = xs.length) : Arr w0 g xs (W.setCells g 0 (xs.map bv)) := by
  have h2 := Arr.over xs bs 0 W h (by omega)
  have e := overB_behind [] bs xs hl
  rw [List.nil_append, List.nil_append] at e
  rw [show overB bs 0 xs = xs from e] at h2
  exact h2

/-- A whole array, read in a region whose operations only read. -/
theorem quiet_load_mid {P : Program} {C : World → Prop} {op : Oper} {a : Act} {K : Act → Prop} (ty : TypeId) (x : Operand) (ho : op.op = .load ty x)
    (b o : Nat) (hx : a.eval x = .pointer (some ⟨b, o, none⟩)) (cs : List Value) (d : TypeDesc) (hc : ∀ w, C w → w.rangeAt b o cs)
    (hu : P.underlying ty = some d) (hd : d.isRow = true) (hi : (P.info? ty).map (·.size) = some cs.length) (v : Value) (hv : v = .agg cs.toArray)
    (h : K (a.put op.dst v)) : op.quiet P a C K := by
  subst hv
  refine ⟨_, fun w hw => ?_, h⟩
  unfold Oper.quietAt execOp
  simp only [ho, hx, Instr.loadAt, Instr.sureAddr, Sem.run_bind, Sem.run_pure, Result.andThen_ok, run_loadVar_mid w b o ty cs d (hc w hw) hu hd hi]
  exact ⟨rfl, rfl⟩

set_option maxHeartbeats 2000000 in
theorem hRead_short (a : Option Addr) (n c : Nat) (b : List UInt8) (w : World) (h : Bytes w (.slice a n c) b) (hn : n ≠ 32) : Calls Try.prog 90 #[.slice a n c] w fun e w' => e = .returned (.tuple #[(readH b).val, .bool (isHead b)]) ∧ Below w.heap.size w w' := by
  have hl := (bytes_len h).1
  have hi : isHead b = false := by
    rw [← Bool.not_eq_true]
    intro h1
    have := (isHead_iff.1 h1).1
    omega
  rw [readH_no hi, hi]
  have g1 : ¬ (n : Int) = 32 := by omega
  have g2 : ((n : Int) == 32) = false := beq_eq_false_iff_ne.2 g1
  have g3 : ((n : Int) != 32) = true := bne_iff_ne.2 g1
  have HB : Hid (Below w.heap.size w (w.alloc (.cells #[.int .u64 0, .int .u64 0, .int .u8 0] 37))) := (Below.refl _ w).alloc (Nat.le_refl _) _
  clear h hl hi hn
  go_enter Try.func90, Try.ntmps90
  go_wp2_with fail
  refine bodyPost_ret (results_ct rfl _ _ _ _ _ _ _ rfl (heap_alloc_new w _) Try.underlying37 rfl (by kernel_rfl)) rfl ?_
  exact ⟨rfl, unhide HB⟩

set_option maxRecDepth 100000 in
set_option maxHeartbeats 8000000 in
theorem hRead_long (bb o c : Nat) (b : List UInt8) (w : World) (h : Bytes w (.slice (some ⟨bb, o, none⟩) 32 c) b) : Calls Try.prog 90 #[.slice (some ⟨bb, o, none⟩) 32 c] w fun e w' => e = .returned (.tuple #[(readH b).val, .bool (isHead b)]) ∧ Below w.heap.size w w' := by
  obtain ⟨hl, hc⟩ := bytes_len h
  obtain ⟨w0, hw0⟩ : ∃ w0, w0 = w.alloc (.cells #[.int .u64 0, .int .u64 0, .int .u8 0] 37) := ⟨_, rfl⟩
  have hs0 : w0.heap.size = w.heap.size + 1 := by rw [hw0]; simp
  have HB0 : Hid (Below w.heap.size w w0) := by show Below _ _ _; rw [hw0]; exact (Below.refl _ w).alloc (Nat.le_refl _) _
  have HX0 : Hid (w0.heap[w.heap.size]? = some (.cells #[.int .u64 0, .int .u64 0, .int .u8 0] 37 (0, 0))) := by show _ = _; rw [hw0]; exact heap_alloc_new w _
  have HA1 := hide (Arr.start w0 (w.heap.size + 1) hs0)
  obtain ⟨w1, hw1⟩ : ∃ w1, w1 = w0.alloc (.cells #[.int .u8 0, .int .u8 0, .int .u8 0, .int .u8 0, .int .u8 0, .int .u8 0, .int .u8 0, .int .u8 0, .int .u8 0, .int .u8 0, .int .u8 0, .int .u8 0, .int .u8 0, .int .u8 0, .int .u8 0, .int .u8 0, .int .u8 0, .int .u8 0, .int .u8 0, .int .u8 0, .int .u8 0, .int .u8 0, .int .u8 0, .int .u8 0, .int .u8 0, .int .u8 0, .int .u8 0, .int .u8 0, .int .u8 0, .int .u8 0, .int .u8 0, .int .u8 0] 72) := ⟨_, rfl⟩
  rw [← hw1] at HA1
  have HA2 := hide ((unhide HA1).copied (xs := b) (by rw [List.length_replicate, hl]))
  have h1 : Bytes w1 (.slice (some ⟨bb, o, none⟩) 32 c) b := h.kept fun k _ hk => ((unhide HA1).bb.block k (by rw [hs0]; omega)).trans ((unhide HB0).block k hk)
  have HR : Hid (∀ j x, (b.map bv)[j]? = some x → w1.cell? ((⟨bb, o, none⟩ : Addr).add j) = some x) := by
    rcases h1 with ⟨e, _⟩ | ⟨ad, c', e, _, _, hr⟩
    · cases e
    · simp only [Value.slice.injEq, Option.some.injEq] at e
      rw [e.1]; exact hr
  have HT : Hid (w1.there (w.heap.size + 1) 0 (b.map bv).length) := (unhide HA1).there (by rw [List.length_map, hl]; simp)
  have HL0 : Hid ((b.map bv).length = Nat.min 32 32) := by show _ = _; rw [List.length_map, hl]; rfl
  have HLB := hide hl
  have HS0 := hide hs0
  clear h h1 hl hs0 hc
  go_enter Try.func90, Try.ntmps90
  go_upto_region 4 with fail
  rw [← hw0]
  rw [← hw1]
  clear hw0 hw1
  go_upto_region 5 with (refine wpList_copy_mid rfl (.tmp 10) (.tmp 11) 49 49 rfl 5 Try.underlying49 infoByteSize (w.heap.size + 1) 0 32 32 ⟨bb, o, none⟩ 32 c rfl rfl (b.map bv) (unhide HL0) (unhide HR) (unhide HT) (bv_one _) ?_)
  generalize w1.setCells (w.heap.size + 1) 0 (b.map bv) = w2 at *
  clear HR HT HL0 HA1
  generalize goInt ((b.map bv).length) = n12
  go_simp
  obtain ⟨S, hS⟩ : ∃ S, S = le (b.take 8) := ⟨_, rfl⟩
  obtain ⟨E, hE⟩ : ∃ E, E = le ((b.drop 8).take 8) := ⟨_, rfl⟩
  obtain ⟨L, hL⟩ : ∃ L, L = (b.getD 16 0).toNat := ⟨_, rfl⟩
  have HF : Hid (HeadD.mk S E L).fits := ⟨by show S < _; rw [hS]; exact le8_lt (by rw [List.length_take]; have := unhide HLB; omega), by show E < _; rw [hE]; exact le8_lt (by rw [List.length_take, List.length_drop]; have := unhide HLB; omega), by show L < _; rw [hL]; exact (b.getD 16 0).toNat_lt⟩
  have HHO : Hid (headOf b = HeadD.mk S E L) := by show _ = _; rw [hS, hE, hL]; rfl
  have H0 : Hid (Bytes w2 (.slice (some ⟨w.heap.size + 1, 0, none⟩) 8 8) (b.take 8)) := by
    have h2 := (unhide HA2).bytes (o := 0) (n := 8) (c := 8) (by have := unhide HLB; omega) (Nat.le_refl _) (by decide)
    rwa [List.drop_zero] at h2
  have H1 : Hid (Bytes w2 (.slice (some ⟨w.heap.size + 1, 8, none⟩) 8 8) ((b.drop 8).take 8)) := (unhide HA2).bytes (o := 8) (n := 8) (c := 8) (by have := unhide HLB; omega) (Nat.le_refl _) (by decide)
  have c16 : w2.cell? ⟨w.heap.size + 1, 16, none⟩ = some (.int .u8 ((L : Nat) : Int)) := by rw [hL]; exact (unhide HA2).cell (by have := unhide HLB; omega)
  have HS := hide hS
  have HE := hide hE
  clear hS hE hL
  have HKS : Hid (∀ W, Below w2.heap.size w2 W → W.cell? ⟨w.heap.size + 1, 16, none⟩ = some (.int .u8 ((L : Nat) : Int)) ∧ Below w2.heap.size w2 W) := fun W hb =>
    ⟨(hb.cell (p := ⟨w.heap.size + 1, 16, none⟩) (World.block_lt_of_cell? _ _ c16)).trans c16, hb⟩
  have tok1 : True := trivial
  go_cut [5] (fun p wx => ∃ g : Nat, p = .pointer (some ⟨g, 0, none⟩) ∧ w2.heap.size ≤ g ∧ wx.heap[g]? = some (.cells #[.int .u64 ((S : Nat) : Int), .int .u64 ((E : Nat) : Int), .int .u8 ((L : Nat) : Int)] 37 (0, 0)) ∧ Below w2.heap.size w2 wx)
  case first =>
    go_region_held3 (fun W => W.cell? ⟨w.heap.size + 1, 16, none⟩ = some (.int .u8 ((L : Nat) : Int)) ∧ Below w2.heap.size w2 W)
      ((refine unhide HKS _ ?_; first | assumption | exact (Below.refl _ _).drew | exact ((Below.refl _ _).alloc (Nat.le_refl _) _).drew | exact (by assumption : _ ∧ Below w2.heap.size w2 _).2.alloc (by assumption : _ ∧ Below w2.heap.size w2 _).2.size _))
      (first
        | (have _t := tok1; go_at_call 99; clear tok1; refine (hNumber_any (some ⟨w.heap.size + 1, 0, none⟩) 8 (b.take 8) _ ((unhide H0).kept fun k _ hk => (by assumption : _ ∧ Below w2.heap.size w2 _).2.block k hk)).mono ?_; rintro e w' ⟨rfl, rfl⟩; rw [← unhide HS])
        | (go_at_call 99; refine (hNumber_any (some ⟨w.heap.size + 1, 8, none⟩) 8 ((b.drop 8).take 8) _ ((unhide H1).kept fun k _ hk => (by assumption : _ ∧ Below w2.heap.size w2 _).2.block k hk)).mono ?_; rintro e w' ⟨rfl, rfl⟩; rw [← unhide HE]))
    all_goals (
      go_wp2_with fail
      go_meet
      exact ⟨_, rfl, Nat.le_refl _, (by exact heap_alloc_new w2 _), ((Below.refl _ _).alloc (Nat.le_refl _) _).drew⟩)
  obtain ⟨g, rfl, hg, hX, hB⟩ := hcut
  have HG := hide hg
  have HX := hide hX
  have HB := hide hB
  have HA3 : Hid (Arr w0 (w.heap.size + 1) b wc) := (unhide HA2).later hB
  have HA0 : Hid (Arr w0 (w.heap.size + 1) b w2) := HA2
  clear hg hX hB HKS c16 H0 H1 HA2 HS HE
  generalize wc = w3 at *
  obtain ⟨R, hR⟩ : ∃ R, (HeadD.mk S E L).right = R := ⟨_, rfl⟩
  obtain ⟨Q, hQ⟩ : ∃ Q, ((HeadD.mk S E L).bytes == b) = Q := ⟨_, rfl⟩
  obtain ⟨A1, hA1⟩ : ∃ A1, ((HeadD.mk S E L).bytes.map bv).toArray = A1 := ⟨_, rfl⟩
  obtain ⟨A2, hA2⟩ : ∃ A2, (b.map bv).toArray = A2 := ⟨_, rfl⟩
  have HI : Hid (isHead b = (R && Q)) := by show _ = _; rw [isHead_laid (unhide HLB), unhide HHO, hR, hQ]
  have hEq : ∀ W : World, (Op.equalIn 10000 72 (.agg A1) (.agg A2)).run Try.prog W = .ok Q W := fun W => by
    rw [← hA1, ← hA2, ← hQ]
    exact equal32 _ _ (HeadD.bytes_len _) (unhide HLB) W
  have HI2 : Hid ((Try.prog.info? 72).map (·.size) = some (b.map bv).length) := by
    show _ = _
    rw [List.length_map, unhide HLB]
    exact info32
  have HA2N := hide hA2.symm
  have HA1N := hide hA1
  have HR := hide hR
  clear hR hQ hA1 hA2
  have c0 : w3.cell? ⟨g, 0, none⟩ = some (.int .u64 ((S : Nat) : Int)) := cell_of_row _ _ 0 _ _ _ (unhide HX)
  have c1 : w3.cell? ⟨g, 1, none⟩ = some (.int .u64 ((E : Nat) : Int)) := cell_of_row _ _ 1 _ _ _ (unhide HX)
  have c2 : w3.cell? ⟨g, 2, none⟩ = some (.int .u8 ((L : Nat) : Int)) := cell_of_row _ _ 2 _ _ _ (unhide HX)
  go_upto_region 6 with fail
  go_cut [28] (fun v wx => v = .bool (!(R && Q)) ∧ Below w3.heap.size w3 wx)
  case first =>
    cases R with
    | true =>
      have l0 := Later.cell c0
      have l1 := Later.cell c1
      have l2 := Later.cell c2
      clear c0 c1 c2
      have hne : Nonempty (Later w3) := ⟨⟨w3, Below.refl _ _⟩⟩
      refine wp_region_later (by kernel_rfl) ?_
      repeat (go_big_quiet_step ((rename_i x; first
        | (go_at_call 91; refine (hRight_any S E L _ (unhide HF)).mono ?_; rintro e w11 ⟨rfl, hb⟩; exact ⟨by rw [unhide HR], x.then hb⟩)
        | (go_at_call 96; refine (hLaid_any S E L _ (unhide HF)).mono ?_; rintro e w11 ⟨rfl, hb⟩; exact ⟨by rw [unhide HA1N], x.then hb⟩))))
      go_big_quiet_want
      refine quiet_load_mid 72 (.tmp 4) rfl (w.heap.size + 1) 0 rfl (b.map bv) _ (fun W ⟨x, hx⟩ => by rw [hx]; exact ((unhide HA3).later x.2).range) Try.underlying72 rfl (unhide HI2) (.agg A2) (by rw [unhide HA2N]) ?_
      go_simp
      go_big_quiet_on
      repeat (go_big_quiet_step (fail))
      refine wpQuiet_nil ?_
      rintro _ ⟨x, rfl⟩
      have HFIN : Hid (Below w3.heap.size w3 x.1) := x.2
      generalize x.1 = W20 at *
      go_wp2_with fail
      go_meet
      exact ⟨rfl, unhide HFIN⟩
    | false =>
      first
        | go_region_with (go_at_call 91; refine (hRight_any S E L _ (unhide HF)).mono ?_; rintro e w4 ⟨rfl, hb2⟩; rw [unhide HR]; have hB2 : Below w3.heap.size w3 w4 := (Below.refl _ w3).drew.trans hb2; clear hb2)
        | fail "no"
      all_goals (
        go_wp2_with fail
        go_meet
        exact ⟨rfl, hB2⟩)
  obtain ⟨rfl, hB2⟩ := hcut
  have HX2 : Hid (wc.heap[g]? = some (.cells #[.int .u64 ((S : Nat) : Int), .int .u64 ((E : Nat) : Int), .int .u8 ((L : Nat) : Int)] 37 (0, 0))) := (hB2.block _ (Array.getElem?_eq_some_iff.1 (unhide HX)).1).trans (unhide HX)
  have HB3 : Hid (Below w0.heap.size w0 wc) := (unhide HA3).bb.trans (hB2.mono (unhide HA3).bb.size)
  have HGN : Hid (w0.heap.size ≤ g) := Nat.le_trans (unhide HA0).bb.size (unhide HG)
  clear hB2 c0 c1 c2 HX HB HA3 hEq
  generalize wc = wr at *
  have HXr : Hid (wr.heap[w.heap.size]? = some (.cells #[.int .u64 0, .int .u64 0, .int .u8 0] 37 (0, 0))) := ((unhide HB3).block _ (Array.getElem?_eq_some_iff.1 (unhide HX0)).1).trans (unhide HX0)
  have HBr : Hid (Below w.heap.size w wr) := (unhide HB0).trans ((unhide HB3).mono (unhide HB0).size)
  have c0 : wr.cell? ⟨g, 0, none⟩ = some (.int .u64 ((S : Nat) : Int)) := cell_of_row _ _ 0 _ _ _ (unhide HX2)
  have c1 : wr.cell? ⟨g, 1, none⟩ = some (.int .u64 ((E : Nat) : Int)) := cell_of_row _ _ 1 _ _ _ (unhide HX2)
  have c2 : wr.cell? ⟨g, 2, none⟩ = some (.int .u8 ((L : Nat) : Int)) := cell_of_row _ _ 2 _ _ _ (unhide HX2)
  have d0 : wr.cell? ⟨w.heap.size, 0, none⟩ = some (.int .u64 0) := cell_of_row _ _ 0 _ _ _ (unhide HXr)
  have d1 : wr.cell? ⟨w.heap.size, 1, none⟩ = some (.int .u64 0) := cell_of_row _ _ 1 _ _ _ (unhide HXr)
  have d2 : wr.cell? ⟨w.heap.size, 2, none⟩ = some (.int .u8 0) := cell_of_row _ _ 2 _ _ _ (unhide HXr)
  have f0 : wr.frozen? ⟨w.heap.size, 0, none⟩ = false := frozen_of_row _ _ _ _ _ (unhide HXr)
  have f1 : wr.frozen? ⟨w.heap.size, 1, none⟩ = false := frozen_of_row _ _ _ _ _ (unhide HXr)
  have f2 : wr.frozen? ⟨w.heap.size, 2, none⟩ = false := frozen_of_row _ _ _ _ _ (unhide HXr)
  obtain ⟨B, hB⟩ : ∃ B, (R && Q) = B := ⟨_, rfl⟩
  rw [hB] at HI ⊢
  clear hB
  cases B with
  | true =>
    have HV : Hid ((readH b).val = .agg #[.int .u64 ((S : Nat) : Int), .int .u64 ((E : Nat) : Int), .int .u8 ((L : Nat) : Int)]) := by
      show _ = _
      rw [readH_is (unhide HI), unhide HHO]; rfl
    go_wp2_with fail
    refine bodyPost_ret (results_ct rfl _ _ _ _ _ _ _ rfl (set3_heap (unhide HXr) _ _ _) Try.underlying37 rfl (by kernel_rfl)) rfl ?_
    exact ⟨by rw [unhide HV, unhide HI]; rfl, set3_below (unhide HBr) (Nat.le_refl _) _ _ _⟩
  | false =>
    have HV : Hid ((readH b).val = .agg #[.int .u64 0, .int .u64 0, .int .u8 0]) := by
      show _ = _
      rw [readH_no (unhide HI)]; rfl
    go_wp2_with fail
    refine bodyPost_ret (results_ct rfl _ _ _ _ _ _ _ rfl (set3_heap (unhide HXr) _ _ _) Try.underlying37 rfl (by kernel_rfl)) rfl ?_
    exact ⟨by rw [unhide HV, unhide HI]; rfl, set3_below (unhide HBr) (Nat.le_refl _) _ _ _⟩

theorem hRead_any (u : Value) (b : List UInt8) (w : World) (h : Bytes w u b) : Calls Try.prog 90 #[u] w fun e' w' => e' = .returned (.tuple #[(readH b).val, .bool (isHead b)]) ∧ Below w.heap.size w w' := by
  obtain ⟨a, c, rfl, _⟩ := h.form
  by_cases hn : b.length = 32
  · rw [hn] at h ⊢
    obtain ⟨bb, o, rfl, _⟩ := h.spot (by omega)
    exact hRead_long bb o c b w h
  · exact hRead_short a _ c b w h hn
end Go.Proofs.Ytflfiobicapopaa

namespace Go.Proofs.Ytflfiobicapopaa
open Go.RowKit

/-- An array's element, its run laid. -/
theorem wpList_index2 {P : Program} {w : World} {ops : Array Oper} {rest : List Oper} {op : Oper} {a : Act} {Q : Exit → Act → World → Prop} (hgd : op.guard = none) (x i : Operand) (t : TypeId) (ho : op.op = .index t x i) (v iv u : Value) (hx : a.eval x = v) (hi : a.eval i = iv)
    (hrun : (Instr.index t v iv).run P w = .ok u w) (h : wpList P ops Q rest (a.put op.dst u) w) : wpList P ops Q (op :: rest) a w := by
  refine wpList_plain hgd fun K hK => ?_
  unfold Oper.wp execOp
  simp only [ho, hx, hi, Sem.run_bind, hrun, Result.andThen_ok]
  exact hK _ _ h

theorem readH_fits (b : List UInt8) : (readH b).fits := by
  cases h : isHead b with
  | true => rw [readH_is h]; exact (bytes_read h).1
  | false => rw [readH_no h]; exact ⟨by decide, by decide, by decide⟩

/-- One slot more is looked at. -/
def better (best : HeadD) (b : List UInt8) (slot : Nat) : HeadD := if (isHead b && (readH b).s % 2 == slot && decide (best.s < (readH b).s)) then readH b else best
def bestOf (zero one : List UInt8) : Nat → HeadD
  | 0 => ⟨0, 0, 0⟩
  | 1 => better ⟨0, 0, 0⟩ zero 0
  | _ => better (better ⟨0, 0, 0⟩ zero 0) one 1
theorem best_fits (zero one : List UInt8) (j : Nat) : (bestOf zero one j).fits := by
  have h0 : (HeadD.mk 0 0 0).fits := ⟨by decide, by decide, by decide⟩
  have hb : ∀ (B : HeadD) b k, B.fits → (better B b k).fits := fun B b k hB => by
    unfold better
    split
    · exact readH_fits b
    · exact hB
  match j with
  | 0 => exact h0
  | 1 => exact hb _ _ _ h0
  | _ + 2 => exact hb _ _ _ (hb _ _ _ h0)
theorem best_pick (zero one : List UInt8) : bestOf zero one 2 = pickV zero one ∧ (bestOf zero one 2).right = (pickH zero one).isSome := by
  have r : ∀ b, isHead b = true → (readH b).right = true ∧ (readH b).s ≠ 0 := fun b h => by
    rw [readH_is h]
    exact ⟨(bytes_read h).2.1, (HeadD.right_iff.1 (bytes_read h).2.1).1⟩
  have z : (HeadD.mk 0 0 0).right = false := by decide
  unfold pickV
  rw [pickH_eq zero one _ _ rfl rfl]
  show better (better ⟨0, 0, 0⟩ zero 0) one 1 = _ ∧ (better (better ⟨0, 0, 0⟩ zero 0) one 1).right = _
  unfold better
  cases h0 : isHead zero with
  | false =>
    cases h1 : isHead one with
    | false => simp [z]
    | true =>
      obtain ⟨a, b⟩ := r one h1
      have p : 0 < (readH one).s := by omega
      by_cases c : (readH one).s % 2 = 1 <;> simp [c, p, a, z]
  | true =>
    obtain ⟨a0, b0⟩ := r zero h0
    have p0 : 0 < (readH zero).s := by omega
    cases h1 : isHead one with
    | false => by_cases c : (readH zero).s % 2 = 0 <;> simp [c, p0, a0, z]
    | true =>
      obtain ⟨a, b⟩ := r one h1
      have p : 0 < (readH one).s := by omega
      by_cases c : (readH zero).s % 2 = 0 <;> by_cases c2 : (readH one).s % 2 = 1 <;> by_cases c3 : (readH zero).s < (readH one).s <;> simp [c, c2, c3, p0, p, a0, a, z]

/-- The best one so far, in its block. -/
structure PickSt (w : World) (best : HeadD) (W : World) : Prop where
  res : W.heap[w.heap.size]? = some (.cells #[.int .u64 0, .int .u64 0, .int .u8 0] 37 (0, 0))
  best : W.heap[w.heap.size + 1]? = some (.cells #[.int .u64 ((best.s : Nat) : Int), .int .u64 ((best.e : Nat) : Int), .int .u8 ((best.l : Nat) : Int)] 37 (0, 0))
  bb : Below w.heap.size w W
theorem PickSt.start (w : World) : PickSt w ⟨0, 0, 0⟩ ((w.alloc (.cells #[.int .u64 0, .int .u64 0, .int .u8 0] 37)).alloc (.cells #[.int .u64 0, .int .u64 0, .int .u8 0] 37)) := by
  refine ⟨?_, ?_, ((Below.refl _ w).alloc (Nat.le_refl _) _).alloc (by simp) _⟩
  · rw [Below.heap_alloc _ _ _ (by simp), heap_alloc_new]
  · have e := heap_alloc_new (w.alloc (.cells #[.int .u64 0, .int .u64 0, .int .u8 0] 37)) (.cells #[.int .u64 0, .int .u64 0, .int .u8 0] 37)
    simpa using e
theorem PickSt.lt {w W : World} {best : HeadD} (h : PickSt w best W) : w.heap.size + 1 < W.heap.size := (Array.getElem?_eq_some_iff.1 h.best).1
theorem PickSt.later {w W W' : World} {best : HeadD} (h : PickSt w best W) (hb : Below W.heap.size W W') : PickSt w best W' :=
  ⟨(hb.block _ (by have := h.lt; omega)).trans h.res, (hb.block _ h.lt).trans h.best, h.bb.trans (hb.mono h.bb.size)⟩
theorem PickSt.alloc {w W : World} {best : HeadD} (h : PickSt w best W) (o : Obj) : PickSt w best (W.alloc o) := h.later ((Below.refl _ W).alloc (Nat.le_refl _) _)
theorem PickSt.set {w W : World} {best : HeadD} (h : PickSt w best W) (s e l : Nat) : PickSt w ⟨s, e, l⟩ (((W.setCell ⟨w.heap.size + 1, 0, none⟩ (.int .u64 ((s : Nat) : Int))).setCell ⟨w.heap.size + 1, 1, none⟩ (.int .u64 ((e : Nat) : Int))).setCell ⟨w.heap.size + 1, 2, none⟩ (.int .u8 ((l : Nat) : Int))) := by
  refine ⟨?_, set3_heap h.best _ _ _, set3_below h.bb (by omega) _ _ _⟩
  rw [Below.heap_setCell _ _ _ _ (by simp), Below.heap_setCell _ _ _ _ (by simp), Below.heap_setCell _ _ _ _ (by simp)]
  exact h.res

set_option maxRecDepth 100000 in
set_option maxHeartbeats 8000000 in
theorem hPick_any (u v : Value) (zero one : List UInt8) (w : World) (hu : Bytes w u zero) (hv : Bytes w v one) : Calls Try.prog 79 #[u, v] w fun e' w' => e' = .returned (.tuple #[(pickV zero one).val, .bool (pickH zero one).isSome]) ∧ Below w.heap.size w w' := by
  obtain ⟨a0, c0', hu0, _⟩ := hu.form
  obtain ⟨a1, c1', hv0, _⟩ := hv.form
  obtain ⟨n0, hn0⟩ : ∃ n, zero.length = n := ⟨_, rfl⟩
  obtain ⟨n1, hn1⟩ : ∃ n, one.length = n := ⟨_, rfl⟩
  rw [hn0] at hu0
  rw [hn1] at hv0
  subst hu0 hv0
  clear hn0 hn1
  have HI0 : Hid (∀ W : World, (Instr.index 123 (.agg #[.slice a0 n0 c0', .slice a1 n1 c1']) (.int .i64 0)).run Try.prog W = .ok (.slice a0 n0 c0') W) := fun W => by kernel_rfl
  have HI1 : Hid (∀ W : World, (Instr.index 123 (.agg #[.slice a0 n0 c0', .slice a1 n1 c1']) (.int .i64 1)).run Try.prog W = .ok (.slice a1 n1 c1') W) := fun W => by kernel_rfl
  have HU0 := hide hu
  have HV0 := hide hv
  have HST := hide (PickSt.start w)
  clear hu hv
  go_enter Try.func79, Try.ntmps79
  go_wp2_with fail
  go_loopw [14] (fun i W => ∃ j : Nat, j ≤ 2 ∧ i = .int .i64 j ∧ PickSt w (bestOf zero one j) W) (fun i _ => 2 - (intOf i).toNat)
  case atStart => exact ⟨0, by omega, rfl, unhide HST⟩
  case round =>
    obtain ⟨j, hj, rfl, hP⟩ := hrel
    obtain ⟨⟨S, E, L⟩, hBb⟩ : ∃ B, bestOf zero one j = B := ⟨_, rfl⟩
    rw [hBb] at hP
    have HP := hide hP
    clear hP
    rcases (show j = 0 ∨ j = 1 ∨ j = 2 by omega) with rfl | rfl | rfl
    · skip
      obtain ⟨⟨s, e, l⟩, hA⟩ : ∃ A, readH zero = A := ⟨_, rfl⟩
      obtain ⟨X, hX⟩ : ∃ X, isHead zero = X := ⟨_, rfl⟩
      have HA : Hid ((readH zero).val = .agg #[.int .u64 ((s : Nat) : Int), .int .u64 ((e : Nat) : Int), .int .u8 ((l : Nat) : Int)]) := by show _ = _; rw [hA]; rfl
      have HF : Hid (HeadD.mk s e l).fits := hA ▸ readH_fits zero
      have HN : Hid (bestOf zero one 1 = if (X && s % 2 == 0 && decide (S < s)) then ⟨s, e, l⟩ else ⟨S, E, L⟩) := by
        show better (bestOf zero one 0) zero 0 = _
        rw [hBb]
        unfold better
        rw [hX, hA]
      have HU : Hid (Bytes wr (.slice a0 n0 c0') zero) := (unhide HU0).kept fun k _ hk => (unhide HP).bb.block k hk
      have HX := hide hX
      clear hA hX
      clear hBb
      go_wp2_with (refine wpList_index2 rfl (.tmp 13) (.tmp 14) 123 rfl _ _ (.slice a0 n0 c0') rfl rfl (unhide HI0 _) ?_)
      refine (hRead_any (.slice a0 n0 c0') zero _ (unhide HU)).mono ?_
      rintro e' w1 ⟨rfl, hb1⟩
      rw [unhide HA, unhide HX]
      have HP1 := hide ((unhide HP).later hb1)
      clear hb1
      cases X with
      | false =>
        go_wp2_with fail
        exact ⟨⟨1, by omega, rfl, by rw [unhide HN]; exact (unhide HP1).alloc _⟩, by simp [intOf]⟩
      | true =>
        go_upto_region 6 with fail
        have HP2 := hide ((unhide HP1).alloc (.cells #[.int .u64 ((s : Nat) : Int), .int .u64 ((e : Nat) : Int), .int .u8 ((l : Nat) : Int)] 37))
        have HH2 := hide (heap_alloc_new w1 (.cells #[.int .u64 ((s : Nat) : Int), .int .u64 ((e : Nat) : Int), .int .u8 ((l : Nat) : Int)] 37))
        generalize w1.alloc (.cells #[.int .u64 ((s : Nat) : Int), .int .u64 ((e : Nat) : Int), .int .u8 ((l : Nat) : Int)] 37) = w2 at *
        generalize w1.heap.size = g at *
        have c0 : w2.cell? ⟨g, 0, none⟩ = some (.int .u64 ((s : Nat) : Int)) := cell_of_row _ _ 0 _ _ _ (unhide HH2)
        have c1 : w2.cell? ⟨g, 1, none⟩ = some (.int .u64 ((e : Nat) : Int)) := cell_of_row _ _ 1 _ _ _ (unhide HH2)
        have c2 : w2.cell? ⟨g, 2, none⟩ = some (.int .u8 ((l : Nat) : Int)) := cell_of_row _ _ 2 _ _ _ (unhide HH2)
        go_wp2_with fail
        refine (hSlot_any s e l _ (unhide HF)).mono ?_
        rintro e' w3 ⟨rfl, hb3⟩
        have HP3 := hide ((unhide HP2).later hb3)
        have hh3 := (hb3.block _ (Array.getElem?_eq_some_iff.1 (unhide HH2)).1).trans (unhide HH2)
        have c0 : w3.cell? ⟨g, 0, none⟩ = some (.int .u64 ((s : Nat) : Int)) := cell_of_row _ _ 0 _ _ _ hh3
        have c1 : w3.cell? ⟨g, 1, none⟩ = some (.int .u64 ((e : Nat) : Int)) := cell_of_row _ _ 1 _ _ _ hh3
        have c2 : w3.cell? ⟨g, 2, none⟩ = some (.int .u8 ((l : Nat) : Int)) := cell_of_row _ _ 2 _ _ _ hh3
        have d0 : w3.cell? ⟨w.heap.size + 1, 0, none⟩ = some (.int .u64 ((S : Nat) : Int)) := cell_of_row _ _ 0 _ _ _ (unhide HP3).best
        have d1 : w3.cell? ⟨w.heap.size + 1, 1, none⟩ = some (.int .u64 ((E : Nat) : Int)) := cell_of_row _ _ 1 _ _ _ (unhide HP3).best
        have d2 : w3.cell? ⟨w.heap.size + 1, 2, none⟩ = some (.int .u8 ((L : Nat) : Int)) := cell_of_row _ _ 2 _ _ _ (unhide HP3).best
        have f0 : w3.frozen? ⟨w.heap.size + 1, 0, none⟩ = false := frozen_of_row _ _ _ _ _ (unhide HP3).best
        have f1 : w3.frozen? ⟨w.heap.size + 1, 1, none⟩ = false := frozen_of_row _ _ _ _ _ (unhide HP3).best
        have f2 : w3.frozen? ⟨w.heap.size + 1, 2, none⟩ = false := frozen_of_row _ _ _ _ _ (unhide HP3).best
        clear hb3 hh3
        have hm : ((s % 2 : Nat) : Int) = (s : Int) % 2 := by omega
        by_cases h1 : s % 2 = 0
        · have g1 : ((s : Int) % 2 == 0) = true := beq_iff_eq.2 (by omega)
          have g1' : (s : Int) % 2 = 0 := by omega
          by_cases h2 : S < s
          · have g2 : (s : Int) > (S : Int) := by omega
            have HN2 : Hid (bestOf zero one 1 = ⟨s, e, l⟩) := by show _ = _; rw [unhide HN, if_pos (by simp [h1, h2])]
            clear h1 h2
            go_wp2_with fail
            exact ⟨⟨1, by omega, rfl, by rw [unhide HN2]; exact (unhide HP3).set s e l⟩, by simp [intOf]⟩
          · have g2 : ¬ (s : Int) > (S : Int) := by omega
            have HN2 : Hid (bestOf zero one 1 = ⟨S, E, L⟩) := by show _ = _; rw [unhide HN, if_neg (by simp [h2])]
            clear h1 h2
            go_wp2_with fail
            exact ⟨⟨1, by omega, rfl, by rw [unhide HN2]; exact unhide HP3⟩, by simp [intOf]⟩
        · have g1 : ((s : Int) % 2 == 0) = false := beq_eq_false_iff_ne.2 (by omega)
          have g1' : ¬ (s : Int) % 2 = 0 := by omega
          have HN2 : Hid (bestOf zero one 1 = ⟨S, E, L⟩) := by show _ = _; rw [unhide HN, if_neg (by simp [h1])]
          clear h1
          go_wp2_with fail
          exact ⟨⟨1, by omega, rfl, by rw [unhide HN2]; exact unhide HP3⟩, by simp [intOf]⟩
    · skip
      obtain ⟨⟨s, e, l⟩, hA⟩ : ∃ A, readH one = A := ⟨_, rfl⟩
      obtain ⟨X, hX⟩ : ∃ X, isHead one = X := ⟨_, rfl⟩
      have HA : Hid ((readH one).val = .agg #[.int .u64 ((s : Nat) : Int), .int .u64 ((e : Nat) : Int), .int .u8 ((l : Nat) : Int)]) := by show _ = _; rw [hA]; rfl
      have HF : Hid (HeadD.mk s e l).fits := hA ▸ readH_fits one
      have HN : Hid (bestOf zero one 2 = if (X && s % 2 == 1 && decide (S < s)) then ⟨s, e, l⟩ else ⟨S, E, L⟩) := by
        show better (bestOf zero one 1) one 1 = _
        rw [hBb]
        unfold better
        rw [hX, hA]
      have HU : Hid (Bytes wr (.slice a1 n1 c1') one) := (unhide HV0).kept fun k _ hk => (unhide HP).bb.block k hk
      have HX := hide hX
      clear hA hX
      clear hBb
      go_wp2_with (refine wpList_index2 rfl (.tmp 13) (.tmp 14) 123 rfl _ _ (.slice a1 n1 c1') rfl rfl (unhide HI1 _) ?_)
      refine (hRead_any (.slice a1 n1 c1') one _ (unhide HU)).mono ?_
      rintro e' w1 ⟨rfl, hb1⟩
      rw [unhide HA, unhide HX]
      have HP1 := hide ((unhide HP).later hb1)
      clear hb1
      cases X with
      | false =>
        go_wp2_with fail
        exact ⟨⟨2, by omega, rfl, by rw [unhide HN]; exact (unhide HP1).alloc _⟩, by simp [intOf]⟩
      | true =>
        go_upto_region 6 with fail
        have HP2 := hide ((unhide HP1).alloc (.cells #[.int .u64 ((s : Nat) : Int), .int .u64 ((e : Nat) : Int), .int .u8 ((l : Nat) : Int)] 37))
        have HH2 := hide (heap_alloc_new w1 (.cells #[.int .u64 ((s : Nat) : Int), .int .u64 ((e : Nat) : Int), .int .u8 ((l : Nat) : Int)] 37))
        generalize w1.alloc (.cells #[.int .u64 ((s : Nat) : Int), .int .u64 ((e : Nat) : Int), .int .u8 ((l : Nat) : Int)] 37) = w2 at *
        generalize w1.heap.size = g at *
        have c0 : w2.cell? ⟨g, 0, none⟩ = some (.int .u64 ((s : Nat) : Int)) := cell_of_row _ _ 0 _ _ _ (unhide HH2)
        have c1 : w2.cell? ⟨g, 1, none⟩ = some (.int .u64 ((e : Nat) : Int)) := cell_of_row _ _ 1 _ _ _ (unhide HH2)
        have c2 : w2.cell? ⟨g, 2, none⟩ = some (.int .u8 ((l : Nat) : Int)) := cell_of_row _ _ 2 _ _ _ (unhide HH2)
        go_wp2_with fail
        refine (hSlot_any s e l _ (unhide HF)).mono ?_
        rintro e' w3 ⟨rfl, hb3⟩
        have HP3 := hide ((unhide HP2).later hb3)
        have hh3 := (hb3.block _ (Array.getElem?_eq_some_iff.1 (unhide HH2)).1).trans (unhide HH2)
        have c0 : w3.cell? ⟨g, 0, none⟩ = some (.int .u64 ((s : Nat) : Int)) := cell_of_row _ _ 0 _ _ _ hh3
        have c1 : w3.cell? ⟨g, 1, none⟩ = some (.int .u64 ((e : Nat) : Int)) := cell_of_row _ _ 1 _ _ _ hh3
        have c2 : w3.cell? ⟨g, 2, none⟩ = some (.int .u8 ((l : Nat) : Int)) := cell_of_row _ _ 2 _ _ _ hh3
        have d0 : w3.cell? ⟨w.heap.size + 1, 0, none⟩ = some (.int .u64 ((S : Nat) : Int)) := cell_of_row _ _ 0 _ _ _ (unhide HP3).best
        have d1 : w3.cell? ⟨w.heap.size + 1, 1, none⟩ = some (.int .u64 ((E : Nat) : Int)) := cell_of_row _ _ 1 _ _ _ (unhide HP3).best
        have d2 : w3.cell? ⟨w.heap.size + 1, 2, none⟩ = some (.int .u8 ((L : Nat) : Int)) := cell_of_row _ _ 2 _ _ _ (unhide HP3).best
        have f0 : w3.frozen? ⟨w.heap.size + 1, 0, none⟩ = false := frozen_of_row _ _ _ _ _ (unhide HP3).best
        have f1 : w3.frozen? ⟨w.heap.size + 1, 1, none⟩ = false := frozen_of_row _ _ _ _ _ (unhide HP3).best
        have f2 : w3.frozen? ⟨w.heap.size + 1, 2, none⟩ = false := frozen_of_row _ _ _ _ _ (unhide HP3).best
        clear hb3 hh3
        have hm : ((s % 2 : Nat) : Int) = (s : Int) % 2 := by omega
        by_cases h1 : s % 2 = 1
        · have g1 : ((s : Int) % 2 == 1) = true := beq_iff_eq.2 (by omega)
          have g1' : (s : Int) % 2 = 1 := by omega
          by_cases h2 : S < s
          · have g2 : (s : Int) > (S : Int) := by omega
            have HN2 : Hid (bestOf zero one 2 = ⟨s, e, l⟩) := by show _ = _; rw [unhide HN, if_pos (by simp [h1, h2])]
            clear h1 h2
            go_wp2_with fail
            exact ⟨⟨2, by omega, rfl, by rw [unhide HN2]; exact (unhide HP3).set s e l⟩, by simp [intOf]⟩
          · have g2 : ¬ (s : Int) > (S : Int) := by omega
            have HN2 : Hid (bestOf zero one 2 = ⟨S, E, L⟩) := by show _ = _; rw [unhide HN, if_neg (by simp [h2])]
            clear h1 h2
            go_wp2_with fail
            exact ⟨⟨2, by omega, rfl, by rw [unhide HN2]; exact unhide HP3⟩, by simp [intOf]⟩
        · have g1 : ((s : Int) % 2 == 1) = false := beq_eq_false_iff_ne.2 (by omega)
          have g1' : ¬ (s : Int) % 2 = 1 := by omega
          have HN2 : Hid (bestOf zero one 2 = ⟨S, E, L⟩) := by show _ = _; rw [unhide HN, if_neg (by simp [h1])]
          clear h1
          go_wp2_with fail
          exact ⟨⟨2, by omega, rfl, by rw [unhide HN2]; exact unhide HP3⟩, by simp [intOf]⟩
    · skip
      rw [← hBb] at HP
      have HB := hide (best_pick zero one)
      have HFT := hide (best_fits zero one 2)
      rw [hBb] at HP HB HFT
      have HBB := hide hBb
      clear hBb
      have HV : Hid ((pickV zero one).val = .agg #[.int .u64 ((S : Nat) : Int), .int .u64 ((E : Nat) : Int), .int .u8 ((L : Nat) : Int)]) := by show _ = _; rw [← (unhide HB).1]; rfl
      obtain ⟨R, hR⟩ : ∃ R, (HeadD.mk S E L).right = R := ⟨_, rfl⟩
      have HR := hide hR
      have HR2 : Hid ((pickH zero one).isSome = R) := by show _ = _; rw [← (unhide HB).2, hR]
      clear hR
      go_upto_region 9 with fail
      have d0 : wr.cell? ⟨w.heap.size + 1, 0, none⟩ = some (.int .u64 ((S : Nat) : Int)) := cell_of_row _ _ 0 _ _ _ (unhide HP).best
      have d1 : wr.cell? ⟨w.heap.size + 1, 1, none⟩ = some (.int .u64 ((E : Nat) : Int)) := cell_of_row _ _ 1 _ _ _ (unhide HP).best
      have d2 : wr.cell? ⟨w.heap.size + 1, 2, none⟩ = some (.int .u8 ((L : Nat) : Int)) := cell_of_row _ _ 2 _ _ _ (unhide HP).best
      have r0 : wr.cell? ⟨w.heap.size, 0, none⟩ = some (.int .u64 0) := cell_of_row _ _ 0 _ _ _ (unhide HP).res
      have r1 : wr.cell? ⟨w.heap.size, 1, none⟩ = some (.int .u64 0) := cell_of_row _ _ 1 _ _ _ (unhide HP).res
      have r2 : wr.cell? ⟨w.heap.size, 2, none⟩ = some (.int .u8 0) := cell_of_row _ _ 2 _ _ _ (unhide HP).res
      have f0 : wr.frozen? ⟨w.heap.size, 0, none⟩ = false := frozen_of_row _ _ _ _ _ (unhide HP).res
      have f1 : wr.frozen? ⟨w.heap.size, 1, none⟩ = false := frozen_of_row _ _ _ _ _ (unhide HP).res
      have f2 : wr.frozen? ⟨w.heap.size, 2, none⟩ = false := frozen_of_row _ _ _ _ _ (unhide HP).res
      go_region_with ((go_at_call 91; refine (hRight_any S E L _ (unhide HFT)).mono ?_; rintro e' w4 ⟨rfl, hb4⟩; rw [unhide HR]; have HP4 := hide (((unhide HP).later (below_drewN wr _)).later hb4); clear hb4; have z0 : w4.cell? ⟨w.heap.size + 1, 0, none⟩ = some (.int .u64 ((S : Nat) : Int)) := cell_of_row _ _ 0 _ _ _ (unhide HP4).best; have z1 : w4.cell? ⟨w.heap.size + 1, 1, none⟩ = some (.int .u64 ((E : Nat) : Int)) := cell_of_row _ _ 1 _ _ _ (unhide HP4).best; have z2 : w4.cell? ⟨w.heap.size + 1, 2, none⟩ = some (.int .u8 ((L : Nat) : Int)) := cell_of_row _ _ 2 _ _ _ (unhide HP4).best; have x0 : w4.cell? ⟨w.heap.size, 0, none⟩ = some (.int .u64 0) := cell_of_row _ _ 0 _ _ _ (unhide HP4).res; have x1 : w4.cell? ⟨w.heap.size, 1, none⟩ = some (.int .u64 0) := cell_of_row _ _ 1 _ _ _ (unhide HP4).res; have x2 : w4.cell? ⟨w.heap.size, 2, none⟩ = some (.int .u8 0) := cell_of_row _ _ 2 _ _ _ (unhide HP4).res; have y0 : w4.frozen? ⟨w.heap.size, 0, none⟩ = false := frozen_of_row _ _ _ _ _ (unhide HP4).res; have y1 : w4.frozen? ⟨w.heap.size, 1, none⟩ = false := frozen_of_row _ _ _ _ _ (unhide HP4).res; have y2 : w4.frozen? ⟨w.heap.size, 2, none⟩ = false := frozen_of_row _ _ _ _ _ (unhide HP4).res))
      all_goals (
        go_wp2_with fail
        refine bodyPost_ret (results_ct rfl _ _ _ _ _ _ _ rfl (set3_heap (unhide HP4).res _ _ _) Try.underlying37 rfl (by kernel_rfl)) rfl ?_
        exact ⟨by rw [unhide HV, unhide HR2]; rfl, set3_below (unhide HP4).bb (Nat.le_refl _) _ _ _⟩)
end Go.Proofs.Ytflfiobicapopaa

namespace Go.Proofs.Ytflfiobicapopaa
open Go.RowKit

/-- What is kept along Save and Load: the disk, and heads M that are none of its blocks. -/
structure Sv (D0 : Nat → Prop) (w0 W : World) (M : List (Nat × Array Value)) (p : Nat) (A : AD) : Prop where
  dsk : ∃ D v, DiskIs W p D v A ∧ Step D0 D w0 W ∧ ∀ q ∈ M, ¬ D q.1
  ce : ∀ q ∈ M, W.heap[q.1]? = some (Obj.cells q.2 37 (0, 0))
section
variable {D0 : Nat → Prop} {w0 W W' : World} {M : List (Nat × Array Value)} {p : Nat} {A : AD}
theorem Sv.start (h : Now D0 p A w0 W) : Sv D0 w0 W [] p A := by
  obtain ⟨D, v, h1, h2⟩ := h
  exact ⟨⟨D, v, h1, h2, fun q hq => by cases hq⟩, fun q hq => by cases hq⟩
theorem Sv.now (h : Sv D0 w0 W M p A) : Now D0 p A w0 W := by
  obtain ⟨D, v, h1, h2, _⟩ := h.dsk
  exact ⟨D, v, h1, h2⟩
theorem Sv.later (h : Sv D0 w0 W M p A) (hb : Below W.heap.size W W') : Sv D0 w0 W' M p A := by
  obtain ⟨D, v, h1, h2, h3⟩ := h.dsk
  refine ⟨⟨D, v, h1.kept hb.size fun k hk => hb.block k (h1.lt k hk), h2.trans ⟨hb.os, hb.tape, hb.output, hb.size, fun k hk _ => hb.block k hk, fun _ x => .inl x⟩, h3⟩, fun q hq => ?_⟩
  exact (hb.block _ (Array.getElem?_eq_some_iff.1 (h.ce q hq)).1).trans (h.ce q hq)
theorem Sv.newC (h : Sv D0 w0 W M p A) (cs : Array Value) : Sv D0 w0 (W.alloc (.cells cs 37)) ((W.heap.size, cs) :: M) p A := by
  have h' := h.later ((Below.refl _ W).alloc (Nat.le_refl _) (.cells cs 37))
  obtain ⟨D, v, h1, h2, h3⟩ := h.dsk
  refine ⟨⟨D, v, h1.alloc _, h2.alloc _, fun q hq => ?_⟩, fun q hq => ?_⟩
  · rcases List.mem_cons.1 hq with e | e
    · rw [e]; exact fun hd => Nat.lt_irrefl _ (h1.lt _ hd)
    · exact h3 q e
  · rcases List.mem_cons.1 hq with e | e
    · rw [e]; exact heap_alloc_new W _
    · exact h'.ce q e
theorem Sv.step (h : Sv D0 w0 W M p A) : ∃ D, Now D p A W W ∧ (∀ k, D k → k < W.heap.size) ∧ ∀ A' W', Now D p A' W W' → Sv D0 w0 W' M p A' := by
  obtain ⟨D, v, h1, h2, h3⟩ := h.dsk
  refine ⟨D, Now.start h1, h1.lt, fun A' W' hn => ?_⟩
  obtain ⟨D', v', k1, k2⟩ := hn
  have hlt : ∀ q ∈ M, q.1 < W.heap.size := fun q hq => (Array.getElem?_eq_some_iff.1 (h.ce q hq)).1
  refine ⟨⟨D', v', k1, h2.trans k2, fun q hq => k2.notOwn (hlt q hq) (h3 q hq)⟩, fun q hq => (k2.block _ (hlt q hq) (h3 q hq)).trans (h.ce q hq)⟩
/-- The three cells of a head that is kept. -/
theorem Sv.three (h : Sv D0 w0 W M p A) {g : Nat} {x y z : Value} (hm : (g, #[x, y, z]) ∈ M) : W.cell? ⟨g, 0, none⟩ = some x ∧ W.cell? ⟨g, 1, none⟩ = some y ∧ W.cell? ⟨g, 2, none⟩ = some z ∧ W.frozen? ⟨g, 0, none⟩ = false ∧ W.frozen? ⟨g, 1, none⟩ = false ∧ W.frozen? ⟨g, 2, none⟩ = false :=
  ⟨cell_of_row _ _ 0 _ _ _ (h.ce _ hm), cell_of_row _ _ 1 _ _ _ (h.ce _ hm), cell_of_row _ _ 2 _ _ _ (h.ce _ hm), frozen_of_row _ _ _ _ _ (h.ce _ hm), frozen_of_row _ _ _ _ _ (h.ce _ hm), frozen_of_row _ _ _ _ _ (h.ce _ hm)⟩
/-- Behind a store into a head that is kept the disk stands. -/
theorem Sv.set3 (h : Sv D0 w0 W M p A) {g : Nat} {cs : Array Value} (hm : (g, cs) ∈ M) (hg : w0.heap.size ≤ g) (x y z : Value) : Now D0 p A w0 (((W.setCell ⟨g, 0, none⟩ x).setCell ⟨g, 1, none⟩ y).setCell ⟨g, 2, none⟩ z) := by
  obtain ⟨D, v, h1, h2, h3⟩ := h.dsk
  have hn := h3 _ hm
  refine ⟨D, v, h1.kept (by simp [World.setCell]) fun k hk => ?_, ((h2.setNew (p := ⟨g, 0, none⟩) hg x).setNew (p := ⟨g, 1, none⟩) hg y).setNew (p := ⟨g, 2, none⟩) hg z⟩
  have hk2 : k ≠ g := fun e => hn (e ▸ hk)
  rw [Below.heap_setCell _ _ _ _ hk2, Below.heap_setCell _ _ _ _ hk2, Below.heap_setCell _ _ _ _ hk2]

/-- Write of 32 bytes that lie in a new array. -/
theorem svWrite {W1 : World} (h : Sv D0 w0 W1 M p A) {g : Nat} {bs : List UInt8} (hA : Arr W1 g bs W) (hl : bs.length = 32) (i : Nat) (hi : i < 2) :
    Calls Try.prog 86 #[.pointer (some ⟨p, 0, none⟩), .int .i64 ((i : Nat) : Int), .slice (some ⟨g, 0, none⟩) 32 32] W fun e W' => e = .returned (.int .i64 (chE A)) ∧ Sv D0 w0 W' M p (wrA A i bs) := by
  have hb : Bytes W (.slice (some ⟨g, 0, none⟩) 32 32) bs := by
    have h2 := hA.bytes (o := 0) (n := 32) (c := 32) (by omega) (Nat.le_refl _) (by decide)
    rwa [List.drop_zero, List.take_of_length_le (by omega)] at h2
  have hbb : Below W1.heap.size W1 W := hA.bb
  have h2 := h.later hbb
  obtain ⟨D, v, k1, k2, k3⟩ := h.dsk
  have kW : DiskIs W p D v A := k1.kept hbb.size fun k hk => hbb.block k (k1.lt k hk)
  have hng : ¬ D g := fun hd => by have := k1.lt g hd; have := hA.new; omega
  have hlt : ∀ q ∈ M, q.1 < W.heap.size := fun q hq => (Array.getElem?_eq_some_iff.1 (h2.ce q hq)).1
  have fin : ∀ A' W', Now D p A' W W' → Sv D0 w0 W' M p A' := fun A' W' hn => by
    obtain ⟨D', v', j1, j2⟩ := hn
    have k2' : Step D0 D w0 W := k2.trans ⟨hbb.os, hbb.tape, hbb.output, hbb.size, fun k hk _ => hbb.block k hk, fun _ x => .inl x⟩
    exact ⟨⟨D', v', j1, k2'.trans j2, fun q hq => j2.notOwn (hlt q hq) (k3 q hq)⟩, fun q hq => (j2.block _ (hlt q hq) (k3 q hq)).trans (h2.ce q hq)⟩
  cases hd : A.dead with
  | true =>
    have e1 : chE A = 3 := by simp [chE, hd]
    have e2 : wrA A i bs = A := by simp [wrA, hd]
    rw [e1, e2]
    exact (write_dead kW hd i _ _ _).mono fun e W' ⟨he, hn⟩ => ⟨he, fin _ _ hn⟩
  | false =>
    by_cases hc : A.calls = 0
    · have e1 : chE A = 3 := by simp [chE, hd, hc]
      have e2 : wrA A i bs = { A with dead := true } := by simp [wrA, hd, hc]
      rw [e1, e2]
      exact (write_kill kW hd hc i hi _ _).mono fun e W' ⟨he, hn⟩ => ⟨he, fin _ _ hn⟩
    · have e1 : chE A = 0 := by simp [chE, hd, hc]
      have e2 : wrA A i bs = A.tick.wrote i bs := by simp [wrA, hd, hc]
      rw [e1, e2]
      exact (write_ok kW hd hc i hi _ _ bs hb (fun _ k hk => by simp [Value.ownBlock] at hk; subst hk; exact hng) hl).mono fun e W' ⟨he, hn⟩ => ⟨he, fin _ _ hn⟩
theorem svSyncHead (h : Sv D0 w0 W M p A) : Calls Try.prog 30 #[.pointer (some ⟨p, 0, none⟩)] W fun e W' => e = .returned (.int .i64 (chE A)) ∧ Sv D0 w0 W' M p (shA A) := by
  obtain ⟨D, hn, _, fin⟩ := h.step
  obtain ⟨D1, v1, k1, k2⟩ := hn
  have lift : ∀ A' W', Now D1 p A' W W' → Now D p A' W W' := fun A' W' hx => Now.trans k2 hx
  cases hd : A.dead with
  | true =>
    have e1 : chE A = 3 := by simp [chE, hd]
    have e2 : shA A = A := by simp [shA, hd]
    rw [e1, e2]
    exact (syncHead_dead k1 hd).mono fun e W' ⟨he, hx⟩ => ⟨he, fin _ _ (lift _ _ hx)⟩
  | false =>
    by_cases hc : A.calls = 0
    · have e1 : chE A = 3 := by simp [chE, hd, hc]
      have e2 : shA A = { A with dead := true } := by simp [shA, hd, hc]
      rw [e1, e2]
      exact (syncHead_kill k1 hd hc).mono fun e W' ⟨he, hx⟩ => ⟨he, fin _ _ (lift _ _ hx)⟩
    · have e1 : chE A = 0 := by simp [chE, hd, hc]
      have e2 : shA A = A.tick.syncedHead := by simp [shA, hd, hc]
      rw [e1, e2]
      exact (syncHead_ok k1 hd hc).mono fun e W' ⟨he, hx⟩ => ⟨he, fin _ _ (lift _ _ hx)⟩
end

theorem chE_or (A : AD) : chE A = 0 ∨ chE A = 3 := by
  unfold chE
  split
  · exact .inr rfl
  · split
    · exact .inr rfl
    · exact .inl rfl

set_option maxRecDepth 100000 in
set_option maxHeartbeats 8000000 in
theorem hSave_any (D : Nat → Prop) (p : Nat) (A : AD) (w0 w : World) (s e l : Nat) (hn : Now D p A w0 w) (hf : (HeadD.mk s e l).fits) : Calls Try.prog 74 #[.pointer (some ⟨p, 0, none⟩), .agg #[.int .u64 ((s : Nat) : Int), .int .u64 ((e : Nat) : Int), .int .u8 ((l : Nat) : Int)]] w fun e' w' => e' = .returned (.tuple #[(saveH A ⟨s, e, l⟩).val, .int .i64 (saveE A ⟨s, e, l⟩)]) ∧ Now D p (saveD A ⟨s, e, l⟩) w0 w' := by
  obtain ⟨t, ht⟩ : ∃ t, (s + 1) % 18446744073709551616 = t := ⟨_, rfl⟩
  have HNX : Hid ((HeadD.mk s e l).next = ⟨t, e, l⟩) := by show _ = _; rw [← ht]; rfl
  have HF : Hid (HeadD.mk t e l).fits := by have h2 := HeadD.next_fits hf; rw [unhide HNX] at h2; exact h2
  have HW0 : Hid (w0.heap.size ≤ w.heap.size) := hn.size
  have hsv := (Sv.start hn).newC #[.int .u64 ((t : Nat) : Int), .int .u64 ((e : Nat) : Int), .int .u8 ((l : Nat) : Int)]
  have hsv2 := hsv.newC #[.int .u64 0, .int .u64 0, .int .u8 0]
  have hsz : (w.alloc (.cells #[.int .u64 ((t : Nat) : Int), .int .u64 ((e : Nat) : Int), .int .u8 ((l : Nat) : Int)] 37)).heap.size = w.heap.size + 1 := by simp
  rw [hsz] at hsv2
  have HS := hide hsv2
  have hwr : IntKind.u64.wrap ((s : Int) + 1) = ((t : Nat) : Int) := by rw [IntKind.wrap_u64]; omega
  clear hn hf hsv hsv2 hsz
  go_enter Try.func74, Try.ntmps74
  go_upto_region 2 with fail
  generalize (w.alloc (.cells #[.int .u64 ((t : Nat) : Int), .int .u64 ((e : Nat) : Int), .int .u8 ((l : Nat) : Int)] 37)).alloc (.cells #[.int .u64 0, .int .u64 0, .int .u8 0] 37) = W1 at *
  have n0 := ((unhide HS).three (g := w.heap.size) (x := .int .u64 ((t : Nat) : Int)) (y := .int .u64 ((e : Nat) : Int)) (z := .int .u8 ((l : Nat) : Int)) (by simp)).1
  have n1 := ((unhide HS).three (g := w.heap.size) (x := .int .u64 ((t : Nat) : Int)) (y := .int .u64 ((e : Nat) : Int)) (z := .int .u8 ((l : Nat) : Int)) (by simp)).2.1
  have n2 := ((unhide HS).three (g := w.heap.size) (x := .int .u64 ((t : Nat) : Int)) (y := .int .u64 ((e : Nat) : Int)) (z := .int .u8 ((l : Nat) : Int)) (by simp)).2.2.1
  have HT := hide ht
  clear ht hwr
  cases hr : (HeadD.mk t e l).right with
  | false =>
    have HE : Hid (saveE A ⟨s, e, l⟩ = 50) := by show _ = _; simp [saveE, unhide HNX, hr]
    have HH : Hid (saveH A ⟨s, e, l⟩ = ⟨0, 0, 0⟩) := by show _ = _; simp [saveH, unhide HE]
    have HDD : Hid (saveD A ⟨s, e, l⟩ = A) := by show _ = _; simp [saveD, unhide HNX, hr]
    have HR := hide hr
    clear hr
    go_wp2_with fail
    refine (hBytes_no t e l _ (unhide HF) (unhide HR)).mono ?_
    rintro e' W2 ⟨rfl, hb2⟩
    have HS2 := hide ((unhide HS).later hb2)
    clear hb2 n0 n1 n2
    obtain ⟨r0, r1, r2, f0, f1, f2⟩ := (unhide HS2).three (g := w.heap.size + 1) (x := .int .u64 0) (y := .int .u64 0) (z := .int .u8 0) (by simp)
    go_wp2_with fail
    refine bodyPost_ret (results_ct rfl _ _ _ _ _ _ _ rfl (set3_heap ((unhide HS2).ce (w.heap.size + 1, #[.int .u64 0, .int .u64 0, .int .u8 0]) (by simp)) _ _ _) Try.underlying37 rfl (by kernel_rfl)) rfl ?_
    exact ⟨by rw [unhide HH, unhide HE]; rfl, by rw [unhide HDD]; exact (unhide HS2).set3 (cs := #[.int .u64 0, .int .u64 0, .int .u8 0]) (by simp) (by have := unhide HW0; omega) _ _ _⟩
  | true =>
    have HR := hide hr
    have HLB := hide (HeadD.mk t e l).bytes_len
    clear hr
    go_wp2_with fail
    refine (hBytes_ok t e l _ (unhide HF) (unhide HR)).mono ?_
    rintro e' W2 ⟨g, rfl, hA2⟩
    have HA2 := hide hA2
    have HS2 := hide ((unhide HS).later hA2.bb)
    clear hA2 n0 n1 n2
    have n0 := ((unhide HS2).three (g := w.heap.size) (x := .int .u64 ((t : Nat) : Int)) (y := .int .u64 ((e : Nat) : Int)) (z := .int .u8 ((l : Nat) : Int)) (by simp)).1
    have n1 := ((unhide HS2).three (g := w.heap.size) (x := .int .u64 ((t : Nat) : Int)) (y := .int .u64 ((e : Nat) : Int)) (z := .int .u8 ((l : Nat) : Int)) (by simp)).2.1
    have n2 := ((unhide HS2).three (g := w.heap.size) (x := .int .u64 ((t : Nat) : Int)) (y := .int .u64 ((e : Nat) : Int)) (z := .int .u8 ((l : Nat) : Int)) (by simp)).2.2.1
    go_wp2_with fail
    refine (hSlot_any t e l _ (unhide HF)).mono ?_
    rintro e' W3 ⟨rfl, hb3⟩
    have HA3 := hide ((unhide HA2).later hb3)
    clear hb3 HA2 HS2 n0 n1 n2
    have hmod : t % 2 < 2 := Nat.mod_lt _ (by decide)
    have HMOD := hide hmod
    clear hmod
    obtain ⟨i2, hi2⟩ : ∃ i2, t % 2 = i2 := ⟨_, rfl⟩
    rw [hi2] at HMOD ⊢
    have HI2 := hide hi2
    clear hi2
    go_wp2_with fail
    refine (svWrite (unhide HS) (unhide HA3) (unhide HLB) i2 (unhide HMOD)).mono ?_
    rintro e' W4 ⟨rfl, hs4⟩
    have HS4 := hide hs4
    clear hs4 HA3 HS
    rcases chE_or A with hc | hc
    · rw [hc]
      have HC := hide hc
      clear hc
      go_wp2_with fail
      refine (svSyncHead (unhide HS4)).mono ?_
      rintro e' W5 ⟨rfl, hs5⟩
      have HS5 := hide hs5
      clear hs5 HS4
      have HDD : Hid (saveD A ⟨s, e, l⟩ = shA (wrA A i2 (HeadD.mk t e l).bytes)) := by show _ = _; simp [saveD, unhide HNX, unhide HR, unhide HC, unhide HI2]
      have HE0 : Hid (saveE A ⟨s, e, l⟩ = chE (wrA A i2 (HeadD.mk t e l).bytes)) := by show _ = _; simp [saveE, unhide HNX, unhide HR, unhide HC, unhide HI2]
      rcases chE_or (wrA A i2 (HeadD.mk t e l).bytes) with hc2 | hc2
      · rw [hc2]
        have HE : Hid (saveE A ⟨s, e, l⟩ = 0) := (unhide HE0).trans hc2
        have HH : Hid (saveH A ⟨s, e, l⟩ = ⟨t, e, l⟩) := by show _ = _; simp [saveH, unhide HE, unhide HNX]
        clear hc2
        have n0 := ((unhide HS5).three (g := w.heap.size) (x := .int .u64 ((t : Nat) : Int)) (y := .int .u64 ((e : Nat) : Int)) (z := .int .u8 ((l : Nat) : Int)) (by simp)).1
        have n1 := ((unhide HS5).three (g := w.heap.size) (x := .int .u64 ((t : Nat) : Int)) (y := .int .u64 ((e : Nat) : Int)) (z := .int .u8 ((l : Nat) : Int)) (by simp)).2.1
        have n2 := ((unhide HS5).three (g := w.heap.size) (x := .int .u64 ((t : Nat) : Int)) (y := .int .u64 ((e : Nat) : Int)) (z := .int .u8 ((l : Nat) : Int)) (by simp)).2.2.1
        obtain ⟨r0, r1, r2, f0, f1, f2⟩ := (unhide HS5).three (g := w.heap.size + 1) (x := .int .u64 0) (y := .int .u64 0) (z := .int .u8 0) (by simp)
        go_wp2_with fail
        refine bodyPost_ret (results_ct rfl _ _ _ _ _ _ _ rfl (set3_heap ((unhide HS5).ce (w.heap.size + 1, #[.int .u64 0, .int .u64 0, .int .u8 0]) (by simp)) _ _ _) Try.underlying37 rfl (by kernel_rfl)) rfl ?_
        exact ⟨by rw [unhide HH, unhide HE]; rfl, by rw [unhide HDD]; exact (unhide HS5).set3 (cs := #[.int .u64 0, .int .u64 0, .int .u8 0]) (by simp) (by have := unhide HW0; omega) _ _ _⟩
      · rw [hc2]
        have HE : Hid (saveE A ⟨s, e, l⟩ = 3) := (unhide HE0).trans hc2
        have HH : Hid (saveH A ⟨s, e, l⟩ = ⟨0, 0, 0⟩) := by show _ = _; simp [saveH, unhide HE]
        clear hc2
        obtain ⟨r0, r1, r2, f0, f1, f2⟩ := (unhide HS5).three (g := w.heap.size + 1) (x := .int .u64 0) (y := .int .u64 0) (z := .int .u8 0) (by simp)
        go_wp2_with fail
        refine bodyPost_ret (results_ct rfl _ _ _ _ _ _ _ rfl (set3_heap ((unhide HS5).ce (w.heap.size + 1, #[.int .u64 0, .int .u64 0, .int .u8 0]) (by simp)) _ _ _) Try.underlying37 rfl (by kernel_rfl)) rfl ?_
        exact ⟨by rw [unhide HH, unhide HE]; rfl, by rw [unhide HDD]; exact (unhide HS5).set3 (cs := #[.int .u64 0, .int .u64 0, .int .u8 0]) (by simp) (by have := unhide HW0; omega) _ _ _⟩
    · rw [hc]
      have HDD : Hid (saveD A ⟨s, e, l⟩ = wrA A i2 (HeadD.mk t e l).bytes) := by show _ = _; simp [saveD, unhide HNX, unhide HR, hc, unhide HI2]
      have HE : Hid (saveE A ⟨s, e, l⟩ = 3) := by show _ = _; simp [saveE, unhide HNX, unhide HR, hc]
      have HH : Hid (saveH A ⟨s, e, l⟩ = ⟨0, 0, 0⟩) := by show _ = _; simp [saveH, unhide HE]
      clear hc
      obtain ⟨r0, r1, r2, f0, f1, f2⟩ := (unhide HS4).three (g := w.heap.size + 1) (x := .int .u64 0) (y := .int .u64 0) (z := .int .u8 0) (by simp)
      go_wp2_with fail
      refine bodyPost_ret (results_ct rfl _ _ _ _ _ _ _ rfl (set3_heap ((unhide HS4).ce (w.heap.size + 1, #[.int .u64 0, .int .u64 0, .int .u8 0]) (by simp)) _ _ _) Try.underlying37 rfl (by kernel_rfl)) rfl ?_
      exact ⟨by rw [unhide HH, unhide HE]; rfl, by rw [unhide HDD]; exact (unhide HS4).set3 (cs := #[.int .u64 0, .int .u64 0, .int .u8 0]) (by simp) (by have := unhide HW0; omega) _ _ _⟩
end Go.Proofs.Ytflfiobicapopaa
