/- CrcLinear: the walk. No statement of the seat is proved here. -/
import Derived.Test.YtjnhafchcajlbaaCrcOk
namespace Go.Proofs.Ytjnhafchcajlbaa
open Go.RowKit

/-- min of four numbers. -/
theorem wpList_min4 {P : Program} {w : World} {ops : Array Oper} {rest : List Oper} {op : Oper} {a : Act} {Q : Exit → Act → World → Prop} (hgd : op.guard = none) (x y z u : Operand) (t : TypeId)
    (ho : op.op = .call { callee := .builtin .min, args := #[x, y, z, u], argTypes := #[t, t, t, t] }) (m n o p : Int) (hx : a.eval x = .int .i64 m) (hy : a.eval y = .int .i64 n) (hz : a.eval z = .int .i64 o) (hu : a.eval u = .int .i64 p)
    (h : wpList P ops Q rest (a.put op.dst (.int .i64 (min m (min n (min o p))))) w) : wpList P ops Q (op :: rest) a w := by
  refine wpList_plain hgd fun K hK => ?_
  have hrun : (Builtin.min_ #[t, t, t, t] op.type #[.int .i64 m, .int .i64 n, .int .i64 o, .int .i64 p]).run P w = .ok (.int .i64 (min m (min n (min o p)))) w := by
    have h1 : ∀ a b : Int, (if b < a then b else a) = min a b := fun a b => by split <;> omega
    simp [Builtin.min_, Builtin.min2, h1, Int.min_assoc]
  unfold Oper.wp
  simp [execOp, ho, resolve, invoke, builtin, hx, hy, hz, hu, hrun, Result.andThen]
  exact hK _ _ h

theorem makeBytes (n : Nat) (hn : n ≤ 1048576) : ∃ Z : Array Value, Z = ((List.replicate n (0 : UInt8)).map bv).toArray ∧ ∀ W : World, (Instr.makeSlice 23 (.int .i64 (n : Int)) (.int .i64 (n : Int))).run Try.prog W = .ok (.slice (some ⟨W.heap.size, 0, none⟩) n n) (W.alloc (.cells Z 5)) := by
  obtain ⟨i, hi, hz0, hz1, hz2⟩ := infoByte
  refine ⟨madeCells (Value.int .u8 0).cells (Int.toNat n * i.size), ?_, fun W => ?_⟩
  · rw [hz1, Nat.mul_one, Int.toNat_natCast]
    apply Array.ext'
    rw [List.map_replicate]
    exact toList_madeCells_one _ _
  · have := run_make (P := Try.prog) W 23 5 i (.int .u8 0) Try.underlying23 hi hz0 .i64 .i64 n n (by omega) (by omega) (by rw [hz2]; omega) (by omega)
    simpa using this

theorem own_made {W : World} {g n : Nat} {Z : Array Value} (hZ : Z = ((List.replicate n (0 : UInt8)).map bv).toArray) (hg : W.heap[g]? = some (.cells Z 5 (0, 0))) (hn : n ≤ 1048576) : W.ownsRow 0 5 1 (.slice (some ⟨g, 0, none⟩) n n) (List.replicate n (0 : UInt8)).length ((List.replicate n (0 : UInt8)).map bv) := by
  refine ⟨by simp, .inr ⟨g, n, Z, by simp, Nat.zero_le _, hg, by simp, by unfold maxLen; omega, by rw [hZ]; simp, ?_⟩⟩
  rw [hZ]
  simp

theorem le_xor3 : ∀ (zs A B C : List UInt8), A.length = zs.length → B.length = zs.length → C.length = zs.length → (∀ t, t < zs.length → zs.getD t 0 = A.getD t 0 ^^^ B.getD t 0 ^^^ C.getD t 0) → le zs = le A ^^^ le B ^^^ le C
  | [], [], [], [], _, _, _, _ => rfl
  | z :: zs, a :: A, b :: B, c :: C, h1, h2, h3, h => by
    have hz : z = a ^^^ b ^^^ c := h 0 (by simp)
    have ih := le_xor3 zs A B C (by simpa using h1) (by simpa using h2) (by simpa using h3) (fun t ht => by simpa using h (t + 1) (by simpa using ht))
    show z.toNat + 256 * le zs = (a.toNat + 256 * le A) ^^^ (b.toNat + 256 * le B) ^^^ (c.toNat + 256 * le C)
    have ea := a.toNat_lt
    have eb := b.toNat_lt
    have ec := c.toNat_lt
    have ez := z.toNat_lt
    rw [show (256 : Nat) = 2 ^ 8 by decide, add_xor (k := 8) (a := z.toNat) (by omega), add_xor (k := 8) (a := a.toNat) (by omega), add_xor (k := 8) (a := b.toNat) (by omega), add_xor (k := 8) (a := c.toNat) (by omega), ih, two_pow_xor, two_pow_xor, hz, toNat_xor8, toNat_xor8]
    generalize a.toNat = p
    generalize b.toNat = q
    generalize c.toNat = r
    generalize 2 ^ 8 * le A = P
    generalize 2 ^ 8 * le B = Q
    generalize 2 ^ 8 * le C = R
    ac_rfl

theorem sum_linear (zs A B C : List UInt8) (h1 : A.length = zs.length) (h2 : B.length = zs.length) (h3 : C.length = zs.length) (h : ∀ t, t < zs.length → zs.getD t 0 = A.getD t 0 ^^^ B.getD t 0 ^^^ C.getD t 0) : sumB zs = sumB A ^^^ sumB B ^^^ sumB C := by
  rw [sum_closed zs, sum_closed A, sum_closed B, sum_closed C, h1, h2, h3, le_xor3 zs A B C h1 h2 h3 h, hvs_xor, hvs_xor, hvs_xor, hvs_xor, hvs_xor, hvs_xor]
  generalize hvs (8 * zs.length) crcOnes = O
  generalize hvs (8 * zs.length) (le A) = P
  generalize hvs (8 * zs.length) (le B) = Q
  generalize hvs (8 * zs.length) (le C) = R
  have e : ∀ x y : Nat, x ^^^ (x ^^^ y) = y := fun x y => by rw [← Nat.xor_assoc, Nat.xor_self, Nat.zero_xor]
  have e1 : crcOnes ^^^ (O ^^^ P) ^^^ (crcOnes ^^^ (O ^^^ Q)) ^^^ (crcOnes ^^^ (O ^^^ R)) = crcOnes ^^^ (crcOnes ^^^ (O ^^^ (O ^^^ (crcOnes ^^^ (O ^^^ (P ^^^ Q ^^^ R)))))) := by ac_rfl
  rw [e1, e, e]
  
/-- Within the loop. -/
structure LR (w : World) (r : Value) (m j : Nat) (A B C zs : List UInt8) (W : World) : Prop where
  own : W.ownsRow 0 5 1 r zs.length (zs.map bv)
  len : zs.length = m
  mix : ∀ t, t < j → zs.getD t 0 = A.getD t 0 ^^^ B.getD t 0 ^^^ C.getD t 0
  new : ∀ k, r.ownBlock = some k → w.heap.size ≤ k
  bb : Below w.heap.size w W

theorem LR.drew {w W : World} {r : Value} {m j : Nat} {A B C zs : List UInt8} (h : LR w r m j A B C zs W) : LR w r m j A B C zs W.drew := ⟨h.own, h.len, h.mix, h.new, h.bb.drew⟩

theorem getD_set (l : List UInt8) (k t : Nat) (y : UInt8) (h : k < l.length) : (l.set k y).getD t 0 = if t = k then y else l.getD t 0 := by
  rw [List.getD_eq_getElem?_getD, List.getD_eq_getElem?_getD, List.getElem?_set]
  by_cases e : k = t
  · subst e; simp [h]
  · rw [if_neg e, if_neg (fun e' => e e'.symm)]

theorem LR.put {w W : World} {b n c j : Nat} {A B C zs : List UInt8} (h : LR w (.slice (some ⟨b, 0, none⟩) n c) n j A B C zs W) (hj : j < n) (y : UInt8) (hy : y = A.getD j 0 ^^^ B.getD j 0 ^^^ C.getD j 0) : LR w (.slice (some ⟨b, 0, none⟩) n c) n (j + 1) A B C (zs.set j y) (W.setCell ⟨b, j, none⟩ (.int .u8 (y.toNat : Nat))) := by
  obtain ⟨b', e, _, _, hs⟩ := own_at h.own h.len hj
  simp only [Option.some.injEq, Addr.mk.injEq, and_true] at e
  subst e
  refine ⟨hs y, by rw [List.length_set]; exact h.len, fun t ht => ?_, h.new, h.bb.setCell (p := ⟨b, j, none⟩) (h.new b rfl) _⟩
  rw [getD_set _ _ _ _ (by rw [h.len]; exact hj)]
  split
  · rename_i e; rw [e, hy]
  · exact h.mix t (by omega)
/-- Behind the loop: the four rows. -/
structure LS (w : World) (r : Value) (a1 a2 a3 : Option Addr) (m c1 c2 c3 : Nat) (A B C zs : List UInt8) (W : World) : Prop where
  b0 : Bytes W r zs
  b1 : Bytes W (.slice a1 m c1) A
  b2 : Bytes W (.slice a2 m c2) B
  b3 : Bytes W (.slice a3 m c3) C
  bb : Below w.heap.size w W
theorem LS.later {w W W' : World} {r : Value} {a1 a2 a3 : Option Addr} {m c1 c2 c3 : Nat} {A B C zs : List UInt8} (h : LS w r a1 a2 a3 m c1 c2 c3 A B C zs W) (hb : Below W.heap.size W W') : LS w r a1 a2 a3 m c1 c2 c3 A B C zs W' :=
  ⟨h.b0.kept fun k _ hk => hb.block k hk, h.b1.kept fun k _ hk => hb.block k hk, h.b2.kept fun k _ hk => hb.block k hk, h.b3.kept fun k _ hk => hb.block k hk, h.bb.trans (hb.mono h.bb.size)⟩

set_option maxRecDepth 100000 in
set_option maxHeartbeats 8000000 in
theorem crcLinear_any (hc : CrcOk) (a1 a2 a3 : Option Addr) (n1 c1 n2 c2 n3 c3 : Nat) (A B C : List UInt8) (w : World) (h1 : Bytes w (.slice a1 n1 c1) A) (h2 : Bytes w (.slice a2 n2 c2) B) (h3 : Bytes w (.slice a3 n3 c3) C) :
    Calls Try.prog 7 #[.slice a1 n1 c1, .slice a2 n2 c2, .slice a3 n3 c3] w fun e w' => e = .returned (.bool true) ∧ Below w.heap.size w w' := by
  have HC := hide hc
  obtain ⟨l1, k1⟩ := bytes_len h1
  obtain ⟨l2, k2⟩ := bytes_len h2
  obtain ⟨l3, k3⟩ := bytes_len h3
  obtain ⟨m, hm⟩ : ∃ m : Nat, m = min n1 (min n2 (min n3 300)) := ⟨_, rfl⟩
  have HM : Hid (min (n1 : Int) (min (n2 : Int) (min (n3 : Int) 300)) = (m : Int)) := by show _ = (m : Int); omega
  have hm1 : m ≤ n1 := by omega
  have hm2 : m ≤ n2 := by omega
  have hm3 : m ≤ n3 := by omega
  have hm300 : m ≤ 300 := by omega
  have hc1 : (m : Int) ≤ (c1 : Int) := by omega
  have hc2 : (m : Int) ≤ (c2 : Int) := by omega
  have hc3 : (m : Int) ≤ (c3 : Int) := by omega
  have hc0 : (0 : Int) ≤ (m : Int) := by omega
  have H1 := hide h1
  have H2 := hide h2
  have H3 := hide h3
  have L1 := hide l1
  have L2 := hide l2
  have L3 := hide l3
  obtain ⟨Z, hZ, hmk⟩ := makeBytes m (by omega)
  have HZ := hide hZ
  clear hc h1 h2 h3 hm l1 l2 l3 hZ k1 k2 k3
  go_enter Try.func7, Try.ntmps7
  go_upto_region 2 with (refine wpList_min4 rfl (.tmp 11) (.tmp 13) (.tmp 15) (.const (.int .i64 300)) 3 rfl _ _ _ _ rfl rfl rfl rfl ?_; rw [unhide HM])
  go_upto_region 3 with fail
  have hR0 : LR w (.slice (some ⟨w.heap.size, 0, none⟩) m m) m 0 A B C (List.replicate m 0) (w.alloc (.cells Z 5)) := ⟨own_made (unhide HZ) (heap_alloc_new w _) (by omega), by simp, fun t ht => by omega, fun k hk => by simp [Value.ownBlock] at hk; omega, (Below.refl _ w).alloc (Nat.le_refl _) _⟩
  obtain ⟨g, hg⟩ : ∃ g, g = w.heap.size := ⟨_, rfl⟩
  rw [← hg] at hR0 ⊢
  generalize w.alloc _ = w1 at *
  have HR0 := hide hR0
  clear hR0 hg hmk HZ HM
  go_wp2_with fail
  go_loopw [21] (fun i W => ∃ (j : Nat) (zs : List UInt8), j ≤ m ∧ i = .int .i64 j ∧ LR w (.slice (some ⟨g, 0, none⟩) m m) m j A B C zs W) (fun i _ => m - (intOf i).toNat)
  case atStart => exact ⟨0, _, Nat.zero_le _, rfl, unhide HR0⟩
  case round =>
    obtain ⟨j, zs, hj, rfl, hR⟩ := hrel
    have HR := hide hR
    clear hR HR0
    by_cases hlt : j < m
    · obtain ⟨d1, e1, q1⟩ := ((unhide H1).kept fun k _ hk => (unhide HR).bb.block k hk : Bytes wr (.slice a1 n1 c1) A).at (by omega : j < n1) (unhide L1)
      obtain ⟨d2, e2, q2⟩ := ((unhide H2).kept fun k _ hk => (unhide HR).bb.block k hk : Bytes wr (.slice a2 n2 c2) B).at (by omega : j < n2) (unhide L2)
      obtain ⟨d3, e3, q3⟩ := ((unhide H3).kept fun k _ hk => (unhide HR).bb.block k hk : Bytes wr (.slice a3 n3 c3) C).at (by omega : j < n3) (unhide L3)
      subst e1 e2 e3
      obtain ⟨g', hg', q0, f0, _⟩ := own_at (unhide HR).own (unhide HR).len hlt
      simp only [Option.some.injEq, Addr.mk.injEq, and_true] at hg'
      subst hg'
      have i0 : (j : Int) < (m : Int) := by omega
      have i1 : (j : Int) < (n1 : Int) := by omega
      have i2 : (j : Int) < (n2 : Int) := by omega
      have i3 : (j : Int) < (n3 : Int) := by omega
      have x1 : bits .xor .u8 (((A.getD j 0).toNat : Nat) : Int) (((B.getD j 0).toNat : Nat) : Int) = (((A.getD j 0 ^^^ B.getD j 0).toNat : Nat) : Int) := by rw [u8_xor_nat _ _ (A.getD j 0).toNat_lt (B.getD j 0).toNat_lt, toNat_xor8]
      have x2 : bits .xor .u8 (((A.getD j 0 ^^^ B.getD j 0).toNat : Nat) : Int) (((C.getD j 0).toNat : Nat) : Int) = (((A.getD j 0 ^^^ B.getD j 0 ^^^ C.getD j 0).toNat : Nat) : Int) := by rw [u8_xor_nat _ _ (A.getD j 0 ^^^ B.getD j 0).toNat_lt (C.getD j 0).toNat_lt, toNat_xor8 (A.getD j 0 ^^^ B.getD j 0)]
      have HP := hide ((unhide HR).put hlt _ rfl)
      generalize A.getD j 0 ^^^ B.getD j 0 ^^^ C.getD j 0 = xy at *
      generalize A.getD j 0 ^^^ B.getD j 0 = xab at *
      generalize A.getD j 0 = xa at *
      generalize B.getD j 0 = xb at *
      generalize C.getD j 0 = xc at *
      go_upto_region 6 with fail
      go_region
      go_wp2_with fail
      exact ⟨⟨j + 1, zs.set j xy, by omega, by go_num, (unhide HP).drew⟩, by simp [intOf]; omega⟩
    · have e : j = m := by omega
      subst e
      have hz := (unhide HR).len
      have t1 : (A.take j).length = j := by rw [List.length_take, unhide L1]; omega
      have t2 : (B.take j).length = j := by rw [List.length_take, unhide L2]; omega
      have t3 : (C.take j).length = j := by rw [List.length_take, unhide L3]; omega
      have hg : ∀ (X : List UInt8) t, t < j → (X.take j).getD t 0 = X.getD t 0 := fun X t ht => by rw [List.getD_eq_getElem?_getD, List.getD_eq_getElem?_getD, List.getElem?_take, if_pos ht]
      have HLIN := hide (sum_linear zs (A.take j) (B.take j) (C.take j) (by omega) (by omega) (by omega) (fun t ht => by rw [hg A t (by omega), hg B t (by omega), hg C t (by omega)]; exact (unhide HR).mix t (by omega)))
      have HJ0 : Hid (LS w (.slice (some ⟨g, 0, none⟩) j j) a1 a2 a3 j c1 c2 c3 (A.take j) (B.take j) (C.take j) zs wr.drew) := ⟨bytes_of_owns (unhide HR).own, ((unhide H1).kept fun k _ hk => (unhide HR).bb.block k hk).take hm1 (unhide L1), ((unhide H2).kept fun k _ hk => (unhide HR).bb.block k hk).take hm2 (unhide L2), ((unhide H3).kept fun k _ hk => (unhide HR).bb.block k hk).take hm3 (unhide L3), (unhide HR).bb.drew⟩
      have HLL : Hid (zs.length ≤ 1048576) := by show _ ≤ _; omega
      have HL1 : Hid ((A.take j).length ≤ 1048576) := by show _ ≤ _; omega
      have HL2 : Hid ((B.take j).length ≤ 1048576) := by show _ ≤ _; omega
      have HL3 : Hid ((C.take j).length ≤ 1048576) := by show _ ≤ _; omega
      clear t1 t2 t3 hg hz HR H1 H2 H3 L1 L2 L3 hlt hj
      generalize A.take j = A' at *
      generalize B.take j = B' at *
      generalize C.take j = C' at *
      have x1 : bits .xor .u32 ((sumB A' : Nat) : Int) ((sumB B' : Nat) : Int) = ((sumB A' ^^^ sumB B' : Nat) : Int) := u32_xor_nat _ _ (sum_lt _) (sum_lt _)
      have x2 : bits .xor .u32 ((sumB A' ^^^ sumB B' : Nat) : Int) ((sumB C' : Nat) : Int) = ((sumB zs : Nat) : Int) := by rw [u32_xor_nat _ _ (xor_lt32 (sum_lt _) (sum_lt _)) (sum_lt _), unhide HLIN]
      go_upto_region 8 with fail
      go_region_with (first
        | (go_at_call_of 13 (Value.slice (some ⟨g, 0, none⟩) j j); refine ((unhide HC).sum _ zs _ (by exact (unhide HJ0).b0) (by exact unhide HLL)).mono ?_; rintro e w2 ⟨rfl, hb⟩; have HJw2 := hide ((unhide HJ0).later hb); clear hb)
        | (go_at_call_of 13 (Value.slice a1 j c1); refine ((unhide HC).sum _ A' _ (by exact (unhide HJw2).b1) (by exact unhide HL1)).mono ?_; rintro e w3 ⟨rfl, hb⟩; have HJw3 := hide ((unhide HJw2).later hb); clear hb)
        | (go_at_call_of 13 (Value.slice a2 j c2); refine ((unhide HC).sum _ B' _ (by exact (unhide HJw3).b2) (by exact unhide HL2)).mono ?_; rintro e w4 ⟨rfl, hb⟩; have HJw4 := hide ((unhide HJw3).later hb); clear hb)
        | (go_at_call_of 13 (Value.slice a3 j c3); refine ((unhide HC).sum _ C' _ (by exact (unhide HJw4).b3) (by exact unhide HL3)).mono ?_; rintro e w5 ⟨rfl, hb⟩; have HJw5 := hide ((unhide HJw4).later hb); clear hb)
        | (go_at_call 8; refine (awake_any (unhide HC) _).mono ?_; rintro e w6 ⟨rfl, hb⟩; have HJw6 := hide ((unhide HJw5).later hb); clear hb))
      all_goals (
        go_wp2_with fail
        go_ret
        exact ⟨rfl, (unhide HJw6).bb⟩)
end Go.Proofs.Ytjnhafchcajlbaa
