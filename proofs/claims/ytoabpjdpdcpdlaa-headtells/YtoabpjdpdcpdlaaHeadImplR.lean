/- What Read of package head answers. No statement of the seat is proved here. -/
import Derived.Test.YtoabpjdpdcpdlaaHeadImplA
import Derived.Stop.BytesEq
namespace Go.Proofs.Ytoabpjdpdcpdlaa
open Go.RowKit

/-- A head is what its own bytes are, laid once more. -/
theorem isHead_laid {b : List UInt8} (hl : b.length = 32) : isHead b = ((headOf b).right && ((headOf b).bytes == b)) := by
  rw [Bool.eq_iff_iff, Bool.and_eq_true, beq_iff_eq]
  constructor
  · intro h
    obtain ⟨_, h2, h3⟩ := bytes_read h
    exact ⟨h2, h3⟩
  · rintro ⟨h1, h2⟩
    have hf : (headOf b).fits := ⟨le8_lt (by rw [List.length_take]; omega), le8_lt (by rw [List.length_take, List.length_drop]; omega), (b.getD 16 0).toNat_lt⟩
    have h3 := (read_bytes hf h1).1
    rwa [h2] at h3

/-- Two arrays of bytes, held against each other. -/
theorem equal32 (xs ys : List UInt8) (hx : xs.length = 32) (hy : ys.length = 32) (W : World) : (Op.equalIn 10000 65 (.agg (xs.map bv).toArray) (.agg (ys.map bv).toArray)).run Try.prog W = .ok (xs == ys) W :=
  run_equalIn_bytes W 9998 65 5 32 Try.underlying65 Try.underlying5 (fun w => by simp [sizeOf]; rfl) xs ys hx hy

/-- A row with other bytes from place o on. -/
def overB (bs : List UInt8) : Nat → List UInt8 → List UInt8
  | _, [] => bs
  | o, x :: xs => overB (bs.set o x) (o + 1) xs
theorem overB_behind (p q : List UInt8) : ∀ (xs : List UInt8), q.length = xs.length → overB (p ++ q) p.length xs = p ++ xs := by
  intro xs
  induction xs generalizing p q with
  | nil => intro h; rw [List.eq_nil_of_length_eq_zero h]; rfl
  | cons x xs ih =>
    intro h
    match q, h with
    | y :: q, h =>
      have e : (p ++ y :: q).set p.length x = (p ++ [x]) ++ q := by
        rw [List.set_append_right _ _ (Nat.le_refl _), Nat.sub_self]
        simp
      rw [overB, e]
      have h2 := ih (p ++ [x]) q (by simpa using h)
      rw [List.length_append, List.length_singleton] at h2
      rw [h2]
      simp
theorem Arr.over {w0 : World} {g : Nat} : ∀ (xs bs : List UInt8) (o : Nat) (W : World), Arr w0 g bs W → o + xs.length ≤ bs.length → Arr w0 g (overB bs o xs) (W.setCells g o (xs.map bv))
  | [], _, _, _, h, _ => h
  | x :: xs, bs, o, W, h, ho => by
    rw [List.length_cons] at ho
    have h2 := h.put (k := o) (by omega) x.toNat x.toNat_lt
    rw [UInt8.ofNat_toNat] at h2
    exact Arr.over xs (bs.set o x) (o + 1) (W.setCell ⟨g, o, none⟩ (bv x)) h2 (by rw [List.length_set]; omega)
theorem Arr.copied {w0 W : World} {g : Nat} {bs xs : List UInt8} (h : Arr w0 g bs W) (hl : bs.length = xs.length) : Arr w0 g xs (W.setCells g 0 (xs.map bv)) := by
  have h2 := Arr.over xs bs 0 W h (by omega)
  have e := overB_behind [] bs xs hl
  rw [List.nil_append, List.nil_append] at e
  rw [show overB bs 0 xs = xs from e] at h2
  exact h2

/-- A whole array, read in a region whose operations only read. -/
theorem quiet_load_mid {P : Program} {C : World → Prop} {op : Oper} {a : Act} {K : Act → Prop} (ty : TypeId) (x : Operand) (ho : op.op = .load ty x)
    (b o : Nat) (hx : a.eval x = .pointer (some ⟨b, o, none⟩)) (cs : List Value) (d : TypeDesc) (hc : ∀ w, C w → w.rangeAt b o cs)
    (hu : P.underlying ty = some d) (hd : d.isRow = true) (hi : (P.info? ty).map (·.size) = some cs.length) (v : Value) (hv : v = .agg cs.toArray)
    (h : K (a.put op.dst v)) : op.quiet P a C K := by
  subst hv
  refine ⟨_, fun w hw => ?_, h⟩
  unfold Oper.quietAt execOp
  simp only [ho, hx, Instr.loadAt, Instr.sureAddr, Sem.run_bind, Sem.run_pure, Result.andThen_ok, run_loadVar_mid w b o ty cs d (hc w hw) hu hd hi]
  exact ⟨rfl, rfl⟩

set_option maxHeartbeats 2000000 in
theorem hRead_short (a : Option Addr) (n c : Nat) (b : List UInt8) (w : World) (h : Bytes w (.slice a n c) b) (hn : n ≠ 32) : Calls Try.prog 12 #[.slice a n c] w fun e w' => e = .returned (.tuple #[(readH b).val, .bool (isHead b)]) ∧ Below w.heap.size w w' := by
  have hl := (bytes_len h).1
  have hi : isHead b = false := by
    rw [← Bool.not_eq_true]
    intro h1
    have := (isHead_iff.1 h1).1
    omega
  rw [readH_no hi, hi]
  have g1 : ¬ (n : Int) = 32 := by omega
  have g2 : ((n : Int) == 32) = false := beq_eq_false_iff_ne.2 g1
  have g3 : ((n : Int) != 32) = true := bne_iff_ne.2 g1
  have HB : Hid (Below w.heap.size w (w.alloc (.cells #[.int .u64 0, .int .u64 0, .int .u8 0] 24))) := (Below.refl _ w).alloc (Nat.le_refl _) _
  clear h hl hi hn
  go_enter Try.func12, Try.ntmps12
  go_wp2_with fail
  refine bodyPost_ret (results_ct rfl _ _ _ _ _ _ _ rfl (heap_alloc_new w _) Try.underlying24 rfl (by kernel_rfl)) rfl ?_
  exact ⟨rfl, unhide HB⟩

set_option maxRecDepth 100000 in
set_option maxHeartbeats 8000000 in
theorem hRead_long (bb o c : Nat) (b : List UInt8) (w : World) (h : Bytes w (.slice (some ⟨bb, o, none⟩) 32 c) b) : Calls Try.prog 12 #[.slice (some ⟨bb, o, none⟩) 32 c] w fun e w' => e = .returned (.tuple #[(readH b).val, .bool (isHead b)]) ∧ Below w.heap.size w w' := by
  obtain ⟨hl, hc⟩ := bytes_len h
  obtain ⟨w0, hw0⟩ : ∃ w0, w0 = w.alloc (.cells #[.int .u64 0, .int .u64 0, .int .u8 0] 24) := ⟨_, rfl⟩
  have hs0 : w0.heap.size = w.heap.size + 1 := by rw [hw0]; simp
  have HB0 : Hid (Below w.heap.size w w0) := by show Below _ _ _; rw [hw0]; exact (Below.refl _ w).alloc (Nat.le_refl _) _
  have HX0 : Hid (w0.heap[w.heap.size]? = some (.cells #[.int .u64 0, .int .u64 0, .int .u8 0] 24 (0, 0))) := by show _ = _; rw [hw0]; exact heap_alloc_new w _
  have HA1 := hide (Arr.start w0 (w.heap.size + 1) hs0)
  obtain ⟨w1, hw1⟩ : ∃ w1, w1 = w0.alloc (.cells #[.int .u8 0, .int .u8 0, .int .u8 0, .int .u8 0, .int .u8 0, .int .u8 0, .int .u8 0, .int .u8 0, .int .u8 0, .int .u8 0, .int .u8 0, .int .u8 0, .int .u8 0, .int .u8 0, .int .u8 0, .int .u8 0, .int .u8 0, .int .u8 0, .int .u8 0, .int .u8 0, .int .u8 0, .int .u8 0, .int .u8 0, .int .u8 0, .int .u8 0, .int .u8 0, .int .u8 0, .int .u8 0, .int .u8 0, .int .u8 0, .int .u8 0, .int .u8 0] 65) := ⟨_, rfl⟩
  rw [← hw1] at HA1
  have HA2 := hide ((unhide HA1).copied (xs := b) (by rw [List.length_replicate, hl]))
  have h1 : Bytes w1 (.slice (some ⟨bb, o, none⟩) 32 c) b := h.kept fun k _ hk => ((unhide HA1).bb.block k (by rw [hs0]; omega)).trans ((unhide HB0).block k hk)
  have HR : Hid (∀ j x, (b.map bv)[j]? = some x → w1.cell? ((⟨bb, o, none⟩ : Addr).add j) = some x) := by
    rcases h1 with ⟨e, _⟩ | ⟨ad, c', e, _, _, hr⟩
    · cases e
    · simp only [Value.slice.injEq, Option.some.injEq] at e
      rw [e.1]; exact hr
  have HT : Hid (w1.there (w.heap.size + 1) 0 (b.map bv).length) := (unhide HA1).there (by rw [List.length_map, hl]; simp)
  have HL0 : Hid ((b.map bv).length = Nat.min 32 32) := by show _ = _; rw [List.length_map, hl]; rfl
  have HLB := hide hl
  have HS0 := hide hs0
  clear h h1 hl hs0 hc
  go_enter Try.func12, Try.ntmps12
  go_upto_region 4 with fail
  rw [← hw0]
  rw [← hw1]
  clear hw0 hw1
  go_upto_region 5 with (refine wpList_copy_mid rfl (.tmp 10) (.tmp 11) 25 25 rfl 5 Try.underlying25 infoByteSize (w.heap.size + 1) 0 32 32 ⟨bb, o, none⟩ 32 c rfl rfl (b.map bv) (unhide HL0) (unhide HR) (unhide HT) (bv_one _) ?_)
  generalize w1.setCells (w.heap.size + 1) 0 (b.map bv) = w2 at *
  clear HR HT HL0 HA1
  generalize goInt ((b.map bv).length) = n12
  go_simp
  obtain ⟨S, hS⟩ : ∃ S, S = le (b.take 8) := ⟨_, rfl⟩
  obtain ⟨E, hE⟩ : ∃ E, E = le ((b.drop 8).take 8) := ⟨_, rfl⟩
  obtain ⟨L, hL⟩ : ∃ L, L = (b.getD 16 0).toNat := ⟨_, rfl⟩
  have HF : Hid (HeadD.mk S E L).fits := ⟨by show S < _; rw [hS]; exact le8_lt (by rw [List.length_take]; have := unhide HLB; omega), by show E < _; rw [hE]; exact le8_lt (by rw [List.length_take, List.length_drop]; have := unhide HLB; omega), by show L < _; rw [hL]; exact (b.getD 16 0).toNat_lt⟩
  have HHO : Hid (headOf b = HeadD.mk S E L) := by show _ = _; rw [hS, hE, hL]; rfl
  have H0 : Hid (Bytes w2 (.slice (some ⟨w.heap.size + 1, 0, none⟩) 8 8) (b.take 8)) := by
    have h2 := (unhide HA2).bytes (o := 0) (n := 8) (c := 8) (by have := unhide HLB; omega) (Nat.le_refl _) (by decide)
    rwa [List.drop_zero] at h2
  have H1 : Hid (Bytes w2 (.slice (some ⟨w.heap.size + 1, 8, none⟩) 8 8) ((b.drop 8).take 8)) := (unhide HA2).bytes (o := 8) (n := 8) (c := 8) (by have := unhide HLB; omega) (Nat.le_refl _) (by decide)
  have c16 : w2.cell? ⟨w.heap.size + 1, 16, none⟩ = some (.int .u8 ((L : Nat) : Int)) := by rw [hL]; exact (unhide HA2).cell (by have := unhide HLB; omega)
  have HS := hide hS
  have HE := hide hE
  clear hS hE hL
  have HKS : Hid (∀ W, Below w2.heap.size w2 W → W.cell? ⟨w.heap.size + 1, 16, none⟩ = some (.int .u8 ((L : Nat) : Int)) ∧ Below w2.heap.size w2 W) := fun W hb =>
    ⟨(hb.cell (p := ⟨w.heap.size + 1, 16, none⟩) (World.block_lt_of_cell? _ _ c16)).trans c16, hb⟩
  have tok1 : True := trivial
  go_cut [5] (fun p wx => ∃ g : Nat, p = .pointer (some ⟨g, 0, none⟩) ∧ w2.heap.size ≤ g ∧ wx.heap[g]? = some (.cells #[.int .u64 ((S : Nat) : Int), .int .u64 ((E : Nat) : Int), .int .u8 ((L : Nat) : Int)] 24 (0, 0)) ∧ Below w2.heap.size w2 wx)
  case first =>
    go_region_held3 (fun W => W.cell? ⟨w.heap.size + 1, 16, none⟩ = some (.int .u8 ((L : Nat) : Int)) ∧ Below w2.heap.size w2 W)
      ((refine unhide HKS _ ?_; first | assumption | exact (Below.refl _ _).drew | exact ((Below.refl _ _).alloc (Nat.le_refl _) _).drew | exact (by assumption : _ ∧ Below w2.heap.size w2 _).2.alloc (by assumption : _ ∧ Below w2.heap.size w2 _).2.size _))
      (first
        | (have _t := tok1; go_at_call 35; clear tok1; refine (hNumber_any (some ⟨w.heap.size + 1, 0, none⟩) 8 (b.take 8) _ ((unhide H0).kept fun k _ hk => (by assumption : _ ∧ Below w2.heap.size w2 _).2.block k hk)).mono ?_; rintro e w' ⟨rfl, rfl⟩; rw [← unhide HS])
        | (go_at_call 35; refine (hNumber_any (some ⟨w.heap.size + 1, 8, none⟩) 8 ((b.drop 8).take 8) _ ((unhide H1).kept fun k _ hk => (by assumption : _ ∧ Below w2.heap.size w2 _).2.block k hk)).mono ?_; rintro e w' ⟨rfl, rfl⟩; rw [← unhide HE]))
    all_goals (
      go_wp2_with fail
      go_meet
      exact ⟨_, rfl, Nat.le_refl _, (by exact heap_alloc_new w2 _), ((Below.refl _ _).alloc (Nat.le_refl _) _).drew⟩)
  obtain ⟨g, rfl, hg, hX, hB⟩ := hcut
  have HG := hide hg
  have HX := hide hX
  have HB := hide hB
  have HA3 : Hid (Arr w0 (w.heap.size + 1) b wc) := (unhide HA2).later hB
  have HA0 : Hid (Arr w0 (w.heap.size + 1) b w2) := HA2
  clear hg hX hB HKS c16 H0 H1 HA2 HS HE
  generalize wc = w3 at *
  obtain ⟨R, hR⟩ : ∃ R, (HeadD.mk S E L).right = R := ⟨_, rfl⟩
  obtain ⟨Q, hQ⟩ : ∃ Q, ((HeadD.mk S E L).bytes == b) = Q := ⟨_, rfl⟩
  obtain ⟨A1, hA1⟩ : ∃ A1, ((HeadD.mk S E L).bytes.map bv).toArray = A1 := ⟨_, rfl⟩
  obtain ⟨A2, hA2⟩ : ∃ A2, (b.map bv).toArray = A2 := ⟨_, rfl⟩
  have HI : Hid (isHead b = (R && Q)) := by show _ = _; rw [isHead_laid (unhide HLB), unhide HHO, hR, hQ]
  have hEq : ∀ W : World, (Op.equalIn 10000 65 (.agg A1) (.agg A2)).run Try.prog W = .ok Q W := fun W => by
    rw [← hA1, ← hA2, ← hQ]
    exact equal32 _ _ (HeadD.bytes_len _) (unhide HLB) W
  have HI2 : Hid ((Try.prog.info? 65).map (·.size) = some (b.map bv).length) := by
    show _ = _
    rw [List.length_map, unhide HLB]
    exact info32
  have HA2N := hide hA2.symm
  have HA1N := hide hA1
  have HR := hide hR
  clear hR hQ hA1 hA2
  have c0 : w3.cell? ⟨g, 0, none⟩ = some (.int .u64 ((S : Nat) : Int)) := cell_of_row _ _ 0 _ _ _ (unhide HX)
  have c1 : w3.cell? ⟨g, 1, none⟩ = some (.int .u64 ((E : Nat) : Int)) := cell_of_row _ _ 1 _ _ _ (unhide HX)
  have c2 : w3.cell? ⟨g, 2, none⟩ = some (.int .u8 ((L : Nat) : Int)) := cell_of_row _ _ 2 _ _ _ (unhide HX)
  go_upto_region 6 with fail
  go_cut [28] (fun v wx => v = .bool (!(R && Q)) ∧ Below w3.heap.size w3 wx)
  case first =>
    cases R with
    | true =>
      have l0 := Later.cell c0
      have l1 := Later.cell c1
      have l2 := Later.cell c2
      clear c0 c1 c2
      have hne : Nonempty (Later w3) := ⟨⟨w3, Below.refl _ _⟩⟩
      refine wp_region_later (by kernel_rfl) ?_
      repeat (go_big_quiet_step ((rename_i x; first
        | (go_at_call 17; refine (hRight_any S E L _ (unhide HF)).mono ?_; rintro e w11 ⟨rfl, hb⟩; exact ⟨by rw [unhide HR], x.then hb⟩)
        | (go_at_call 33; refine (hLaid_any S E L _ (unhide HF)).mono ?_; rintro e w11 ⟨rfl, hb⟩; exact ⟨by rw [unhide HA1N], x.then hb⟩))))
      go_big_quiet_want
      refine quiet_load_mid 65 (.tmp 4) rfl (w.heap.size + 1) 0 rfl (b.map bv) _ (fun W ⟨x, hx⟩ => by rw [hx]; exact ((unhide HA3).later x.2).range) Try.underlying65 rfl (unhide HI2) (.agg A2) (by rw [unhide HA2N]) ?_
      go_simp
      go_big_quiet_on
      repeat (go_big_quiet_step (fail))
      refine wpQuiet_nil ?_
      rintro _ ⟨x, rfl⟩
      have HFIN : Hid (Below w3.heap.size w3 x.1) := x.2
      generalize x.1 = W20 at *
      go_wp2_with fail
      go_meet
      exact ⟨rfl, unhide HFIN⟩
    | false =>
      first
        | go_region_with (go_at_call 17; refine (hRight_any S E L _ (unhide HF)).mono ?_; rintro e w4 ⟨rfl, hb2⟩; rw [unhide HR]; have hB2 : Below w3.heap.size w3 w4 := (Below.refl _ w3).drew.trans hb2; clear hb2)
        | fail "no"
      all_goals (
        go_wp2_with fail
        go_meet
        exact ⟨rfl, hB2⟩)
  obtain ⟨rfl, hB2⟩ := hcut
  have HX2 : Hid (wc.heap[g]? = some (.cells #[.int .u64 ((S : Nat) : Int), .int .u64 ((E : Nat) : Int), .int .u8 ((L : Nat) : Int)] 24 (0, 0))) := (hB2.block _ (Array.getElem?_eq_some_iff.1 (unhide HX)).1).trans (unhide HX)
  have HB3 : Hid (Below w0.heap.size w0 wc) := (unhide HA3).bb.trans (hB2.mono (unhide HA3).bb.size)
  have HGN : Hid (w0.heap.size ≤ g) := Nat.le_trans (unhide HA0).bb.size (unhide HG)
  clear hB2 c0 c1 c2 HX HB HA3 hEq
  generalize wc = wr at *
  have HXr : Hid (wr.heap[w.heap.size]? = some (.cells #[.int .u64 0, .int .u64 0, .int .u8 0] 24 (0, 0))) := ((unhide HB3).block _ (Array.getElem?_eq_some_iff.1 (unhide HX0)).1).trans (unhide HX0)
  have HBr : Hid (Below w.heap.size w wr) := (unhide HB0).trans ((unhide HB3).mono (unhide HB0).size)
  have c0 : wr.cell? ⟨g, 0, none⟩ = some (.int .u64 ((S : Nat) : Int)) := cell_of_row _ _ 0 _ _ _ (unhide HX2)
  have c1 : wr.cell? ⟨g, 1, none⟩ = some (.int .u64 ((E : Nat) : Int)) := cell_of_row _ _ 1 _ _ _ (unhide HX2)
  have c2 : wr.cell? ⟨g, 2, none⟩ = some (.int .u8 ((L : Nat) : Int)) := cell_of_row _ _ 2 _ _ _ (unhide HX2)
  have d0 : wr.cell? ⟨w.heap.size, 0, none⟩ = some (.int .u64 0) := cell_of_row _ _ 0 _ _ _ (unhide HXr)
  have d1 : wr.cell? ⟨w.heap.size, 1, none⟩ = some (.int .u64 0) := cell_of_row _ _ 1 _ _ _ (unhide HXr)
  have d2 : wr.cell? ⟨w.heap.size, 2, none⟩ = some (.int .u8 0) := cell_of_row _ _ 2 _ _ _ (unhide HXr)
  have f0 : wr.frozen? ⟨w.heap.size, 0, none⟩ = false := frozen_of_row _ _ _ _ _ (unhide HXr)
  have f1 : wr.frozen? ⟨w.heap.size, 1, none⟩ = false := frozen_of_row _ _ _ _ _ (unhide HXr)
  have f2 : wr.frozen? ⟨w.heap.size, 2, none⟩ = false := frozen_of_row _ _ _ _ _ (unhide HXr)
  obtain ⟨B, hB⟩ : ∃ B, (R && Q) = B := ⟨_, rfl⟩
  rw [hB] at HI ⊢
  clear hB
  cases B with
  | true =>
    have HV : Hid ((readH b).val = .agg #[.int .u64 ((S : Nat) : Int), .int .u64 ((E : Nat) : Int), .int .u8 ((L : Nat) : Int)]) := by
      show _ = _
      rw [readH_is (unhide HI), unhide HHO]; rfl
    go_wp2_with fail
    refine bodyPost_ret (results_ct rfl _ _ _ _ _ _ _ rfl (set3_heap (unhide HXr) _ _ _) Try.underlying24 rfl (by kernel_rfl)) rfl ?_
    exact ⟨by rw [unhide HV, unhide HI]; rfl, set3_below (unhide HBr) (Nat.le_refl _) _ _ _⟩
  | false =>
    have HV : Hid ((readH b).val = .agg #[.int .u64 0, .int .u64 0, .int .u8 0]) := by
      show _ = _
      rw [readH_no (unhide HI)]; rfl
    go_wp2_with fail
    refine bodyPost_ret (results_ct rfl _ _ _ _ _ _ _ rfl (set3_heap (unhide HXr) _ _ _) Try.underlying24 rfl (by kernel_rfl)) rfl ?_
    exact ⟨by rw [unhide HV, unhide HI]; rfl, set3_below (unhide HBr) (Nat.le_refl _) _ _ _⟩

theorem hRead_any (u : Value) (b : List UInt8) (w : World) (h : Bytes w u b) : Calls Try.prog 12 #[u] w fun e' w' => e' = .returned (.tuple #[(readH b).val, .bool (isHead b)]) ∧ Below w.heap.size w w' := by
  obtain ⟨a, c, rfl, _⟩ := h.form
  by_cases hn : b.length = 32
  · rw [hn] at h ⊢
    obtain ⟨bb, o, rfl, _⟩ := h.spot (by omega)
    exact hRead_long bb o c b w h
  · exact hRead_short a _ c b w h hn
end Go.Proofs.Ytoabpjdpdcpdlaa

namespace Go.Proofs.Ytoabpjdpdcpdlaa
open Go.RowKit

/-- An array's element, its run laid. -/
theorem wpList_index2 {P : Program} {w : World} {ops : Array Oper} {rest : List Oper} {op : Oper} {a : Act} {Q : Exit → Act → World → Prop} (hgd : op.guard = none) (x i : Operand) (t : TypeId) (ho : op.op = .index t x i) (v iv u : Value) (hx : a.eval x = v) (hi : a.eval i = iv)
    (hrun : (Instr.index t v iv).run P w = .ok u w) (h : wpList P ops Q rest (a.put op.dst u) w) : wpList P ops Q (op :: rest) a w := by
  refine wpList_plain hgd fun K hK => ?_
  unfold Oper.wp execOp
  simp only [ho, hx, hi, Sem.run_bind, hrun, Result.andThen_ok]
  exact hK _ _ h

theorem readH_fits (b : List UInt8) : (readH b).fits := by
  cases h : isHead b with
  | true => rw [readH_is h]; exact (bytes_read h).1
  | false => rw [readH_no h]; exact ⟨by decide, by decide, by decide⟩

/-- One slot more is looked at. -/
def better (best : HeadD) (b : List UInt8) (slot : Nat) : HeadD := if (isHead b && (readH b).s % 2 == slot && decide (best.s < (readH b).s)) then readH b else best
def bestOf (zero one : List UInt8) : Nat → HeadD
  | 0 => ⟨0, 0, 0⟩
  | 1 => better ⟨0, 0, 0⟩ zero 0
  | _ => better (better ⟨0, 0, 0⟩ zero 0) one 1
theorem best_fits (zero one : List UInt8) (j : Nat) : (bestOf zero one j).fits := by
  have h0 : (HeadD.mk 0 0 0).fits := ⟨by decide, by decide, by decide⟩
  have hb : ∀ (B : HeadD) b k, B.fits → (better B b k).fits := fun B b k hB => by
    unfold better
    split
    · exact readH_fits b
    · exact hB
  match j with
  | 0 => exact h0
  | 1 => exact hb _ _ _ h0
  | _ + 2 => exact hb _ _ _ (hb _ _ _ h0)
theorem best_pick (zero one : List UInt8) : bestOf zero one 2 = pickV zero one ∧ (bestOf zero one 2).right = (pickH zero one).isSome := by
  have r : ∀ b, isHead b = true → (readH b).right = true ∧ (readH b).s ≠ 0 := fun b h => by
    rw [readH_is h]
    exact ⟨(bytes_read h).2.1, (HeadD.right_iff.1 (bytes_read h).2.1).1⟩
  have z : (HeadD.mk 0 0 0).right = false := by decide
  unfold pickV
  rw [pickH_eq zero one _ _ rfl rfl]
  show better (better ⟨0, 0, 0⟩ zero 0) one 1 = _ ∧ (better (better ⟨0, 0, 0⟩ zero 0) one 1).right = _
  unfold better
  cases h0 : isHead zero with
  | false =>
    cases h1 : isHead one with
    | false => simp [z]
    | true =>
      obtain ⟨a, b⟩ := r one h1
      have p : 0 < (readH one).s := by omega
      by_cases c : (readH one).s % 2 = 1 <;> simp [c, p, a, z]
  | true =>
    obtain ⟨a0, b0⟩ := r zero h0
    have p0 : 0 < (readH zero).s := by omega
    cases h1 : isHead one with
    | false => by_cases c : (readH zero).s % 2 = 0 <;> simp [c, p0, a0, z]
    | true =>
      obtain ⟨a, b⟩ := r one h1
      have p : 0 < (readH one).s := by omega
      by_cases c : (readH zero).s % 2 = 0 <;> by_cases c2 : (readH one).s % 2 = 1 <;> by_cases c3 : (readH zero).s < (readH one).s <;> simp [c, c2, c3, p0, p, a0, a, z]

/-- The best one so far, in its block. -/
structure PickSt (w : World) (best : HeadD) (W : World) : Prop where
  res : W.heap[w.heap.size]? = some (.cells #[.int .u64 0, .int .u64 0, .int .u8 0] 24 (0, 0))
  best : W.heap[w.heap.size + 1]? = some (.cells #[.int .u64 ((best.s : Nat) : Int), .int .u64 ((best.e : Nat) : Int), .int .u8 ((best.l : Nat) : Int)] 24 (0, 0))
  bb : Below w.heap.size w W
theorem PickSt.start (w : World) : PickSt w ⟨0, 0, 0⟩ ((w.alloc (.cells #[.int .u64 0, .int .u64 0, .int .u8 0] 24)).alloc (.cells #[.int .u64 0, .int .u64 0, .int .u8 0] 24)) := by
  refine ⟨?_, ?_, ((Below.refl _ w).alloc (Nat.le_refl _) _).alloc (by simp) _⟩
  · rw [Below.heap_alloc _ _ _ (by simp), heap_alloc_new]
  · have e := heap_alloc_new (w.alloc (.cells #[.int .u64 0, .int .u64 0, .int .u8 0] 24)) (.cells #[.int .u64 0, .int .u64 0, .int .u8 0] 24)
    simpa using e
theorem PickSt.lt {w W : World} {best : HeadD} (h : PickSt w best W) : w.heap.size + 1 < W.heap.size := (Array.getElem?_eq_some_iff.1 h.best).1
theorem PickSt.later {w W W' : World} {best : HeadD} (h : PickSt w best W) (hb : Below W.heap.size W W') : PickSt w best W' :=
  ⟨(hb.block _ (by have := h.lt; omega)).trans h.res, (hb.block _ h.lt).trans h.best, h.bb.trans (hb.mono h.bb.size)⟩
theorem PickSt.alloc {w W : World} {best : HeadD} (h : PickSt w best W) (o : Obj) : PickSt w best (W.alloc o) := h.later ((Below.refl _ W).alloc (Nat.le_refl _) _)
theorem PickSt.set {w W : World} {best : HeadD} (h : PickSt w best W) (s e l : Nat) : PickSt w ⟨s, e, l⟩ (((W.setCell ⟨w.heap.size + 1, 0, none⟩ (.int .u64 ((s : Nat) : Int))).setCell ⟨w.heap.size + 1, 1, none⟩ (.int .u64 ((e : Nat) : Int))).setCell ⟨w.heap.size + 1, 2, none⟩ (.int .u8 ((l : Nat) : Int))) := by
  refine ⟨?_, set3_heap h.best _ _ _, set3_below h.bb (by omega) _ _ _⟩
  rw [Below.heap_setCell _ _ _ _ (by simp), Below.heap_setCell _ _ _ _ (by simp), Below.heap_setCell _ _ _ _ (by simp)]
  exact h.res

set_option maxRecDepth 100000 in
set_option maxHeartbeats 8000000 in
theorem hPick_any (u v : Value) (zero one : List UInt8) (w : World) (hu : Bytes w u zero) (hv : Bytes w v one) : Calls Try.prog 14 #[u, v] w fun e' w' => e' = .returned (.tuple #[(pickV zero one).val, .bool (pickH zero one).isSome]) ∧ Below w.heap.size w w' := by
  obtain ⟨a0, c0', hu0, _⟩ := hu.form
  obtain ⟨a1, c1', hv0, _⟩ := hv.form
  obtain ⟨n0, hn0⟩ : ∃ n, zero.length = n := ⟨_, rfl⟩
  obtain ⟨n1, hn1⟩ : ∃ n, one.length = n := ⟨_, rfl⟩
  rw [hn0] at hu0
  rw [hn1] at hv0
  subst hu0 hv0
  clear hn0 hn1
  have HI0 : Hid (∀ W : World, (Instr.index 84 (.agg #[.slice a0 n0 c0', .slice a1 n1 c1']) (.int .i64 0)).run Try.prog W = .ok (.slice a0 n0 c0') W) := fun W => by kernel_rfl
  have HI1 : Hid (∀ W : World, (Instr.index 84 (.agg #[.slice a0 n0 c0', .slice a1 n1 c1']) (.int .i64 1)).run Try.prog W = .ok (.slice a1 n1 c1') W) := fun W => by kernel_rfl
  have HU0 := hide hu
  have HV0 := hide hv
  have HST := hide (PickSt.start w)
  clear hu hv
  go_enter Try.func14, Try.ntmps14
  go_wp2_with fail
  go_loopw [14] (fun i W => ∃ j : Nat, j ≤ 2 ∧ i = .int .i64 j ∧ PickSt w (bestOf zero one j) W) (fun i _ => 2 - (intOf i).toNat)
  case atStart => exact ⟨0, by omega, rfl, unhide HST⟩
  case round =>
    obtain ⟨j, hj, rfl, hP⟩ := hrel
    obtain ⟨⟨S, E, L⟩, hBb⟩ : ∃ B, bestOf zero one j = B := ⟨_, rfl⟩
    rw [hBb] at hP
    have HP := hide hP
    clear hP
    rcases (show j = 0 ∨ j = 1 ∨ j = 2 by omega) with rfl | rfl | rfl
    · skip
      obtain ⟨⟨s, e, l⟩, hA⟩ : ∃ A, readH zero = A := ⟨_, rfl⟩
      obtain ⟨X, hX⟩ : ∃ X, isHead zero = X := ⟨_, rfl⟩
      have HA : Hid ((readH zero).val = .agg #[.int .u64 ((s : Nat) : Int), .int .u64 ((e : Nat) : Int), .int .u8 ((l : Nat) : Int)]) := by show _ = _; rw [hA]; rfl
      have HF : Hid (HeadD.mk s e l).fits := hA ▸ readH_fits zero
      have HN : Hid (bestOf zero one 1 = if (X && s % 2 == 0 && decide (S < s)) then ⟨s, e, l⟩ else ⟨S, E, L⟩) := by
        show better (bestOf zero one 0) zero 0 = _
        rw [hBb]
        unfold better
        rw [hX, hA]
      have HU : Hid (Bytes wr (.slice a0 n0 c0') zero) := (unhide HU0).kept fun k _ hk => (unhide HP).bb.block k hk
      have HX := hide hX
      clear hA hX
      clear hBb
      go_wp2_with (refine wpList_index2 rfl (.tmp 13) (.tmp 14) 84 rfl _ _ (.slice a0 n0 c0') rfl rfl (unhide HI0 _) ?_)
      refine (hRead_any (.slice a0 n0 c0') zero _ (unhide HU)).mono ?_
      rintro e' w1 ⟨rfl, hb1⟩
      rw [unhide HA, unhide HX]
      have HP1 := hide ((unhide HP).later hb1)
      clear hb1
      cases X with
      | false =>
        go_wp2_with fail
        exact ⟨⟨1, by omega, rfl, by rw [unhide HN]; exact (unhide HP1).alloc _⟩, by simp [intOf]⟩
      | true =>
        go_upto_region 6 with fail
        have HP2 := hide ((unhide HP1).alloc (.cells #[.int .u64 ((s : Nat) : Int), .int .u64 ((e : Nat) : Int), .int .u8 ((l : Nat) : Int)] 24))
        have HH2 := hide (heap_alloc_new w1 (.cells #[.int .u64 ((s : Nat) : Int), .int .u64 ((e : Nat) : Int), .int .u8 ((l : Nat) : Int)] 24))
        generalize w1.alloc (.cells #[.int .u64 ((s : Nat) : Int), .int .u64 ((e : Nat) : Int), .int .u8 ((l : Nat) : Int)] 24) = w2 at *
        generalize w1.heap.size = g at *
        have c0 : w2.cell? ⟨g, 0, none⟩ = some (.int .u64 ((s : Nat) : Int)) := cell_of_row _ _ 0 _ _ _ (unhide HH2)
        have c1 : w2.cell? ⟨g, 1, none⟩ = some (.int .u64 ((e : Nat) : Int)) := cell_of_row _ _ 1 _ _ _ (unhide HH2)
        have c2 : w2.cell? ⟨g, 2, none⟩ = some (.int .u8 ((l : Nat) : Int)) := cell_of_row _ _ 2 _ _ _ (unhide HH2)
        go_wp2_with fail
        refine (hSlot_any s e l _ (unhide HF)).mono ?_
        rintro e' w3 ⟨rfl, hb3⟩
        have HP3 := hide ((unhide HP2).later hb3)
        have hh3 := (hb3.block _ (Array.getElem?_eq_some_iff.1 (unhide HH2)).1).trans (unhide HH2)
        have c0 : w3.cell? ⟨g, 0, none⟩ = some (.int .u64 ((s : Nat) : Int)) := cell_of_row _ _ 0 _ _ _ hh3
        have c1 : w3.cell? ⟨g, 1, none⟩ = some (.int .u64 ((e : Nat) : Int)) := cell_of_row _ _ 1 _ _ _ hh3
        have c2 : w3.cell? ⟨g, 2, none⟩ = some (.int .u8 ((l : Nat) : Int)) := cell_of_row _ _ 2 _ _ _ hh3
        have d0 : w3.cell? ⟨w.heap.size + 1, 0, none⟩ = some (.int .u64 ((S : Nat) : Int)) := cell_of_row _ _ 0 _ _ _ (unhide HP3).best
        have d1 : w3.cell? ⟨w.heap.size + 1, 1, none⟩ = some (.int .u64 ((E : Nat) : Int)) := cell_of_row _ _ 1 _ _ _ (unhide HP3).best
        have d2 : w3.cell? ⟨w.heap.size + 1, 2, none⟩ = some (.int .u8 ((L : Nat) : Int)) := cell_of_row _ _ 2 _ _ _ (unhide HP3).best
        have f0 : w3.frozen? ⟨w.heap.size + 1, 0, none⟩ = false := frozen_of_row _ _ _ _ _ (unhide HP3).best
        have f1 : w3.frozen? ⟨w.heap.size + 1, 1, none⟩ = false := frozen_of_row _ _ _ _ _ (unhide HP3).best
        have f2 : w3.frozen? ⟨w.heap.size + 1, 2, none⟩ = false := frozen_of_row _ _ _ _ _ (unhide HP3).best
        clear hb3 hh3
        have hm : ((s % 2 : Nat) : Int) = (s : Int) % 2 := by omega
        by_cases h1 : s % 2 = 0
        · have g1 : ((s : Int) % 2 == 0) = true := beq_iff_eq.2 (by omega)
          have g1' : (s : Int) % 2 = 0 := by omega
          by_cases h2 : S < s
          · have g2 : (s : Int) > (S : Int) := by omega
            have HN2 : Hid (bestOf zero one 1 = ⟨s, e, l⟩) := by show _ = _; rw [unhide HN, if_pos (by simp [h1, h2])]
            clear h1 h2
            go_wp2_with fail
            exact ⟨⟨1, by omega, rfl, by rw [unhide HN2]; exact (unhide HP3).set s e l⟩, by simp [intOf]⟩
          · have g2 : ¬ (s : Int) > (S : Int) := by omega
            have HN2 : Hid (bestOf zero one 1 = ⟨S, E, L⟩) := by show _ = _; rw [unhide HN, if_neg (by simp [h2])]
            clear h1 h2
            go_wp2_with fail
            exact ⟨⟨1, by omega, rfl, by rw [unhide HN2]; exact unhide HP3⟩, by simp [intOf]⟩
        · have g1 : ((s : Int) % 2 == 0) = false := beq_eq_false_iff_ne.2 (by omega)
          have g1' : ¬ (s : Int) % 2 = 0 := by omega
          have HN2 : Hid (bestOf zero one 1 = ⟨S, E, L⟩) := by show _ = _; rw [unhide HN, if_neg (by simp [h1])]
          clear h1
          go_wp2_with fail
          exact ⟨⟨1, by omega, rfl, by rw [unhide HN2]; exact unhide HP3⟩, by simp [intOf]⟩
    · skip
      obtain ⟨⟨s, e, l⟩, hA⟩ : ∃ A, readH one = A := ⟨_, rfl⟩
      obtain ⟨X, hX⟩ : ∃ X, isHead one = X := ⟨_, rfl⟩
      have HA : Hid ((readH one).val = .agg #[.int .u64 ((s : Nat) : Int), .int .u64 ((e : Nat) : Int), .int .u8 ((l : Nat) : Int)]) := by show _ = _; rw [hA]; rfl
      have HF : Hid (HeadD.mk s e l).fits := hA ▸ readH_fits one
      have HN : Hid (bestOf zero one 2 = if (X && s % 2 == 1 && decide (S < s)) then ⟨s, e, l⟩ else ⟨S, E, L⟩) := by
        show better (bestOf zero one 1) one 1 = _
        rw [hBb]
        unfold better
        rw [hX, hA]
      have HU : Hid (Bytes wr (.slice a1 n1 c1') one) := (unhide HV0).kept fun k _ hk => (unhide HP).bb.block k hk
      have HX := hide hX
      clear hA hX
      clear hBb
      go_wp2_with (refine wpList_index2 rfl (.tmp 13) (.tmp 14) 84 rfl _ _ (.slice a1 n1 c1') rfl rfl (unhide HI1 _) ?_)
      refine (hRead_any (.slice a1 n1 c1') one _ (unhide HU)).mono ?_
      rintro e' w1 ⟨rfl, hb1⟩
      rw [unhide HA, unhide HX]
      have HP1 := hide ((unhide HP).later hb1)
      clear hb1
      cases X with
      | false =>
        go_wp2_with fail
        exact ⟨⟨2, by omega, rfl, by rw [unhide HN]; exact (unhide HP1).alloc _⟩, by simp [intOf]⟩
      | true =>
        go_upto_region 6 with fail
        have HP2 := hide ((unhide HP1).alloc (.cells #[.int .u64 ((s : Nat) : Int), .int .u64 ((e : Nat) : Int), .int .u8 ((l : Nat) : Int)] 24))
        have HH2 := hide (heap_alloc_new w1 (.cells #[.int .u64 ((s : Nat) : Int), .int .u64 ((e : Nat) : Int), .int .u8 ((l : Nat) : Int)] 24))
        generalize w1.alloc (.cells #[.int .u64 ((s : Nat) : Int), .int .u64 ((e : Nat) : Int), .int .u8 ((l : Nat) : Int)] 24) = w2 at *
        generalize w1.heap.size = g at *
        have c0 : w2.cell? ⟨g, 0, none⟩ = some (.int .u64 ((s : Nat) : Int)) := cell_of_row _ _ 0 _ _ _ (unhide HH2)
        have c1 : w2.cell? ⟨g, 1, none⟩ = some (.int .u64 ((e : Nat) : Int)) := cell_of_row _ _ 1 _ _ _ (unhide HH2)
        have c2 : w2.cell? ⟨g, 2, none⟩ = some (.int .u8 ((l : Nat) : Int)) := cell_of_row _ _ 2 _ _ _ (unhide HH2)
        go_wp2_with fail
        refine (hSlot_any s e l _ (unhide HF)).mono ?_
        rintro e' w3 ⟨rfl, hb3⟩
        have HP3 := hide ((unhide HP2).later hb3)
        have hh3 := (hb3.block _ (Array.getElem?_eq_some_iff.1 (unhide HH2)).1).trans (unhide HH2)
        have c0 : w3.cell? ⟨g, 0, none⟩ = some (.int .u64 ((s : Nat) : Int)) := cell_of_row _ _ 0 _ _ _ hh3
        have c1 : w3.cell? ⟨g, 1, none⟩ = some (.int .u64 ((e : Nat) : Int)) := cell_of_row _ _ 1 _ _ _ hh3
        have c2 : w3.cell? ⟨g, 2, none⟩ = some (.int .u8 ((l : Nat) : Int)) := cell_of_row _ _ 2 _ _ _ hh3
        have d0 : w3.cell? ⟨w.heap.size + 1, 0, none⟩ = some (.int .u64 ((S : Nat) : Int)) := cell_of_row _ _ 0 _ _ _ (unhide HP3).best
        have d1 : w3.cell? ⟨w.heap.size + 1, 1, none⟩ = some (.int .u64 ((E : Nat) : Int)) := cell_of_row _ _ 1 _ _ _ (unhide HP3).best
        have d2 : w3.cell? ⟨w.heap.size + 1, 2, none⟩ = some (.int .u8 ((L : Nat) : Int)) := cell_of_row _ _ 2 _ _ _ (unhide HP3).best
        have f0 : w3.frozen? ⟨w.heap.size + 1, 0, none⟩ = false := frozen_of_row _ _ _ _ _ (unhide HP3).best
        have f1 : w3.frozen? ⟨w.heap.size + 1, 1, none⟩ = false := frozen_of_row _ _ _ _ _ (unhide HP3).best
        have f2 : w3.frozen? ⟨w.heap.size + 1, 2, none⟩ = false := frozen_of_row _ _ _ _ _ (unhide HP3).best
        clear hb3 hh3
        have hm : ((s % 2 : Nat) : Int) = (s : Int) % 2 := by omega
        by_cases h1 : s % 2 = 1
        · have g1 : ((s : Int) % 2 == 1) = true := beq_iff_eq.2 (by omega)
          have g1' : (s : Int) % 2 = 1 := by omega
          by_cases h2 : S < s
          · have g2 : (s : Int) > (S : Int) := by omega
            have HN2 : Hid (bestOf zero one 2 = ⟨s, e, l⟩) := by show _ = _; rw [unhide HN, if_pos (by simp [h1, h2])]
            clear h1 h2
            go_wp2_with fail
            exact ⟨⟨2, by omega, rfl, by rw [unhide HN2]; exact (unhide HP3).set s e l⟩, by simp [intOf]⟩
          · have g2 : ¬ (s : Int) > (S : Int) := by omega
            have HN2 : Hid (bestOf zero one 2 = ⟨S, E, L⟩) := by show _ = _; rw [unhide HN, if_neg (by simp [h2])]
            clear h1 h2
            go_wp2_with fail
            exact ⟨⟨2, by omega, rfl, by rw [unhide HN2]; exact unhide HP3⟩, by simp [intOf]⟩
        · have g1 : ((s : Int) % 2 == 1) = false := beq_eq_false_iff_ne.2 (by omega)
          have g1' : ¬ (s : Int) % 2 = 1 := by omega
          have HN2 : Hid (bestOf zero one 2 = ⟨S, E, L⟩) := by show _ = _; rw [unhide HN, if_neg (by simp [h1])]
          clear h1
          go_wp2_with fail
          exact ⟨⟨2, by omega, rfl, by rw [unhide HN2]; exact unhide HP3⟩, by simp [intOf]⟩
    · skip
      rw [← hBb] at HP
      have HB := hide (best_pick zero one)
      have HFT := hide (best_fits zero one 2)
      rw [hBb] at HP HB HFT
      have HBB := hide hBb
      clear hBb
      have HV : Hid ((pickV zero one).val = .agg #[.int .u64 ((S : Nat) : Int), .int .u64 ((E : Nat) : Int), .int .u8 ((L : Nat) : Int)]) := by show _ = _; rw [← (unhide HB).1]; rfl
      obtain ⟨R, hR⟩ : ∃ R, (HeadD.mk S E L).right = R := ⟨_, rfl⟩
      have HR := hide hR
      have HR2 : Hid ((pickH zero one).isSome = R) := by show _ = _; rw [← (unhide HB).2, hR]
      clear hR
      go_upto_region 9 with fail
      have d0 : wr.cell? ⟨w.heap.size + 1, 0, none⟩ = some (.int .u64 ((S : Nat) : Int)) := cell_of_row _ _ 0 _ _ _ (unhide HP).best
      have d1 : wr.cell? ⟨w.heap.size + 1, 1, none⟩ = some (.int .u64 ((E : Nat) : Int)) := cell_of_row _ _ 1 _ _ _ (unhide HP).best
      have d2 : wr.cell? ⟨w.heap.size + 1, 2, none⟩ = some (.int .u8 ((L : Nat) : Int)) := cell_of_row _ _ 2 _ _ _ (unhide HP).best
      have r0 : wr.cell? ⟨w.heap.size, 0, none⟩ = some (.int .u64 0) := cell_of_row _ _ 0 _ _ _ (unhide HP).res
      have r1 : wr.cell? ⟨w.heap.size, 1, none⟩ = some (.int .u64 0) := cell_of_row _ _ 1 _ _ _ (unhide HP).res
      have r2 : wr.cell? ⟨w.heap.size, 2, none⟩ = some (.int .u8 0) := cell_of_row _ _ 2 _ _ _ (unhide HP).res
      have f0 : wr.frozen? ⟨w.heap.size, 0, none⟩ = false := frozen_of_row _ _ _ _ _ (unhide HP).res
      have f1 : wr.frozen? ⟨w.heap.size, 1, none⟩ = false := frozen_of_row _ _ _ _ _ (unhide HP).res
      have f2 : wr.frozen? ⟨w.heap.size, 2, none⟩ = false := frozen_of_row _ _ _ _ _ (unhide HP).res
      go_region_with ((go_at_call 17; refine (hRight_any S E L _ (unhide HFT)).mono ?_; rintro e' w4 ⟨rfl, hb4⟩; rw [unhide HR]; have HP4 := hide (((unhide HP).later (below_drewN wr _)).later hb4); clear hb4; have z0 : w4.cell? ⟨w.heap.size + 1, 0, none⟩ = some (.int .u64 ((S : Nat) : Int)) := cell_of_row _ _ 0 _ _ _ (unhide HP4).best; have z1 : w4.cell? ⟨w.heap.size + 1, 1, none⟩ = some (.int .u64 ((E : Nat) : Int)) := cell_of_row _ _ 1 _ _ _ (unhide HP4).best; have z2 : w4.cell? ⟨w.heap.size + 1, 2, none⟩ = some (.int .u8 ((L : Nat) : Int)) := cell_of_row _ _ 2 _ _ _ (unhide HP4).best; have x0 : w4.cell? ⟨w.heap.size, 0, none⟩ = some (.int .u64 0) := cell_of_row _ _ 0 _ _ _ (unhide HP4).res; have x1 : w4.cell? ⟨w.heap.size, 1, none⟩ = some (.int .u64 0) := cell_of_row _ _ 1 _ _ _ (unhide HP4).res; have x2 : w4.cell? ⟨w.heap.size, 2, none⟩ = some (.int .u8 0) := cell_of_row _ _ 2 _ _ _ (unhide HP4).res; have y0 : w4.frozen? ⟨w.heap.size, 0, none⟩ = false := frozen_of_row _ _ _ _ _ (unhide HP4).res; have y1 : w4.frozen? ⟨w.heap.size, 1, none⟩ = false := frozen_of_row _ _ _ _ _ (unhide HP4).res; have y2 : w4.frozen? ⟨w.heap.size, 2, none⟩ = false := frozen_of_row _ _ _ _ _ (unhide HP4).res))
      all_goals (
        go_wp2_with fail
        refine bodyPost_ret (results_ct rfl _ _ _ _ _ _ _ rfl (set3_heap (unhide HP4).res _ _ _) Try.underlying24 rfl (by kernel_rfl)) rfl ?_
        exact ⟨by rw [unhide HV, unhide HR2]; rfl, set3_below (unhide HP4).bb (Nat.le_refl _) _ _ _⟩)
end Go.Proofs.Ytoabpjdpdcpdlaa
