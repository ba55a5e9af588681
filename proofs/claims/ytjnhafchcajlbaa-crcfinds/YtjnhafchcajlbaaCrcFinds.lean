/- CrcFinds: the walk. No statement of the seat is proved here. -/
import Derived.Test.YtjnhafchcajlbaaCrcOk
namespace Go.Proofs.Ytjnhafchcajlbaa
open Go.RowKit

theorem wpList_index {P : Program} {w : World} {ops : Array Oper} {rest : List Oper} {op : Oper} {a : Act} {Q : Exit → Act → World → Prop} (hgd : op.guard = none) (x i : Operand) (t : TypeId) (ho : op.op = .index t x i) (v iv u : Value) (hx : a.eval x = v) (hi : a.eval i = iv)
    (hrun : (Instr.index t v iv).run P w = .ok u w) (h : wpList P ops Q rest (a.put op.dst u) w) : wpList P ops Q (op :: rest) a w := by
  refine wpList_plain hgd fun K hK => ?_
  unfold Oper.wp
  simp [execOp, ho, hx, hi, hrun, Result.andThen]
  exact hK _ _ h

/-- A copy r of the bytes A, turned about by E from place m on. -/
structure FR (w : World) (r : Value) (n m j : Nat) (A zs : List UInt8) (E : Nat) (W : World) : Prop where
  own : W.ownsRow 0 5 1 r zs.length (zs.map bv)
  len : zs.length = n
  dif : le zs = le A ^^^ 2 ^ (8 * m) * E
  lt : E < 2 ^ (8 * j)
  new : ∀ k, r.ownBlock = some k → w.heap.size ≤ k
  bb : Below w.heap.size w W

section
variable {w W W' : World} {r : Value} {n m j : Nat} {A zs : List UInt8} {E : Nat}
theorem FR.drew (h : FR w r n m j A zs E W) : FR w r n m j A zs E W.drew := ⟨h.own, h.len, h.dif, h.lt, h.new, h.bb.drew⟩
theorem FR.later (h : FR w r n m j A zs E W) (hb : Below W.heap.size W W') : FR w r n m j A zs E W' := ⟨own_keeps h.own fun k hk => hb.block k (h.own.lt k hk).2, h.len, h.dif, h.lt, h.new, h.bb.trans (hb.mono h.bb.size)⟩
theorem FR.more (h : FR w r n m j A zs E W) : FR w r n m (j + 1) A zs E W := ⟨h.own, h.len, h.dif, Nat.lt_of_lt_of_le h.lt (Nat.pow_le_pow_right (by decide) (by omega)), h.new, h.bb⟩
theorem FR.put {b c : Nat} (h : FR w (.slice (some ⟨b, 0, none⟩) n c) n m j A zs E W) (hk : m + j < n) (x : UInt8) (hx : x ≠ 0) :
    FR w (.slice (some ⟨b, 0, none⟩) n c) n m (j + 1) A (zs.set (m + j) (zs.getD (m + j) 0 ^^^ x)) (E ^^^ 2 ^ (8 * j) * x.toNat) (W.setCell ⟨b, m + j, none⟩ (.int .u8 ((zs.getD (m + j) 0 ^^^ x).toNat : Nat))) ∧ E ^^^ 2 ^ (8 * j) * x.toNat ≠ 0 := by
  obtain ⟨b', e, _, _, hs⟩ := own_at h.own h.len hk
  simp only [Option.some.injEq, Addr.mk.injEq, and_true] at e
  subst e
  have hl : m + j < zs.length := by rw [h.len]; exact hk
  have hx1 : 0 < x.toNat := by
    rcases Nat.eq_zero_or_pos x.toNat with h0 | h0
    · exact absurd (UInt8.toNat_inj.1 (by simpa using h0)) hx
    · exact h0
  have hx2 := x.toNat_lt
  have hp : 0 < 2 ^ (8 * j) := Nat.two_pow_pos _
  refine ⟨⟨hs _, by rw [List.length_set]; exact h.len, ?_, ?_, h.new, h.bb.setCell (p := ⟨b, m + j, none⟩) (h.new b rfl) _⟩, ?_⟩
  · have e1 : zs.getD (m + j) 0 = zs[m + j] := by rw [List.getD_eq_getElem?_getD, List.getElem?_eq_getElem hl]; rfl
    rw [e1, le_set zs (m + j) x hl, h.dif, two_pow_xor, show 8 * (m + j) = 8 * m + 8 * j by omega, Nat.pow_add, Nat.mul_assoc, Nat.xor_assoc]
  · rw [← add_xor h.lt, show 8 * (j + 1) = 8 * j + 8 by omega, Nat.pow_add]
    have : 2 ^ (8 * j) * x.toNat ≤ 2 ^ (8 * j) * 255 := Nat.mul_le_mul_left _ (by omega)
    have := h.lt
    omega
  · rw [← add_xor h.lt]
    have : 2 ^ (8 * j) * 1 ≤ 2 ^ (8 * j) * x.toNat := Nat.mul_le_mul_left _ hx1
    omega
theorem FR.told (h : FR w r n m j A zs E W) (hA : A.length = n) (hm : m ≤ n) (hE : E < 4294967296) : sumB zs = sumB A ↔ E = 0 := by
  rw [sum_eq_iff zs A (by rw [h.len, hA]), h.len, h.dif, Nat.xor_comm (le A), Nat.xor_assoc, Nat.xor_self, Nat.xor_zero]
  exact burst hm hE
end

/-- A copy with the bits d turned about. -/
structure GR (w : World) (r : Value) (n : Nat) (A zs : List UInt8) (d : Nat) (W : World) : Prop where
  own : W.ownsRow 0 5 1 r zs.length (zs.map bv)
  len : zs.length = n
  dif : le zs = le A ^^^ d
  new : ∀ k, r.ownBlock = some k → w.heap.size ≤ k
  bb : Below w.heap.size w W
section
variable {w W W' : World} {r : Value} {n d : Nat} {A zs : List UInt8}
theorem GR.drew (h : GR w r n A zs d W) : GR w r n A zs d W.drew := ⟨h.own, h.len, h.dif, h.new, h.bb.drew⟩
theorem GR.later (h : GR w r n A zs d W) (hb : Below W.heap.size W W') : GR w r n A zs d W' := ⟨own_keeps h.own fun k hk => hb.block k (h.own.lt k hk).2, h.len, h.dif, h.new, h.bb.trans (hb.mono h.bb.size)⟩
/-- The bit p as a byte. -/
def bitOf (p : Nat) : UInt8 := UInt8.ofNat (2 ^ (p % 8))
theorem bitOf_toNat (p : Nat) : (bitOf p).toNat = 2 ^ (p % 8) := by
  unfold bitOf
  rw [UInt8.toNat_ofNat']
  have h : p % 8 < 8 := Nat.mod_lt _ (by decide)
  have h2 : 2 ^ (p % 8) < 2 ^ 8 := Nat.pow_lt_pow_right (by decide) h
  exact Nat.mod_eq_of_lt (by simpa using h2)
theorem GR.put {b c p : Nat} (h : GR w (.slice (some ⟨b, 0, none⟩) n c) n A zs d W) (hp : p < 8 * n) :
    GR w (.slice (some ⟨b, 0, none⟩) n c) n A (zs.set (p / 8) (zs.getD (p / 8) 0 ^^^ bitOf p)) (d ^^^ 2 ^ p) (W.setCell ⟨b, p / 8, none⟩ (.int .u8 ((zs.getD (p / 8) 0 ^^^ bitOf p).toNat : Nat))) := by
  obtain ⟨b', e, _, _, hs⟩ := own_at h.own h.len (show p / 8 < n by omega)
  simp only [Option.some.injEq, Addr.mk.injEq, and_true] at e
  subst e
  have hl : p / 8 < zs.length := by rw [h.len]; omega
  refine ⟨hs _, by rw [List.length_set]; exact h.len, ?_, h.new, h.bb.setCell (p := ⟨b, p / 8, none⟩) (h.new b rfl) _⟩
  have e1 : zs.getD (p / 8) 0 = zs[p / 8] := by rw [List.getD_eq_getElem?_getD, List.getElem?_eq_getElem hl]; rfl
  rw [e1, le_set zs (p / 8) _ hl, h.dif, bitOf_toNat, ← Nat.pow_add, show 8 * (p / 8) + p % 8 = p by omega, Nat.xor_assoc]
theorem GR.told (h : GR w r n A zs d W) (hA : A.length = n) : sumB zs = sumB A ↔ hvs (8 * n) d = 0 := by
  rw [sum_eq_iff zs A (by rw [h.len, hA]), h.len, h.dif, Nat.xor_comm (le A), Nat.xor_assoc, Nat.xor_self, Nat.xor_zero]
end
theorem one_bit {n p : Nat} (hp : p < 8 * n) : hvs (8 * n) (0 ^^^ 2 ^ p) ≠ 0 := by
  rw [Nat.zero_xor]
  intro h
  have e : 2 ^ p = 2 ^ (8 * (p / 8)) * 2 ^ (p % 8) := by rw [← Nat.pow_add, show 8 * (p / 8) + p % 8 = p by omega]
  rw [e] at h
  have hlt : 2 ^ (p % 8) < 2 ^ 8 := Nat.pow_lt_pow_right (by decide) (Nat.mod_lt _ (by decide))
  have := (burst (show p / 8 ≤ n by omega) (by omega)).1 h
  have hp : 0 < 2 ^ (p % 8) := Nat.two_pow_pos _
  omega

set_option maxRecDepth 100000 in
set_option maxHeartbeats 4000000 in
theorem finds_far (hc : CrcOk) (a : Option Addr) (n c : Nat) (t one two : Int) (x : Nat → UInt8) (w : World) (hf : n = 0 ∨ 300 < n) : Calls Try.prog 6 #[.slice a n c, .int .u16 t, .agg #[.int .u8 ((x 0).toNat : Nat), .int .u8 ((x 1).toNat : Nat), .int .u8 ((x 2).toNat : Nat), .int .u8 ((x 3).toNat : Nat)], .int .u16 one, .int .u16 two] w fun e w' => e = .returned (.bool true) ∧ Below w.heap.size w w' := by
  have HC := hide hc
  clear hc
  by_cases h0 : n = 0
  · subst h0
    clear hf
    go_enter Try.func6, Try.ntmps6
    go_wp2_with fail
    refine (awake_any (unhide HC) _).mono ?_
    rintro e w' ⟨rfl, hb⟩
    have HB := hide (((Below.refl _ w).alloc (Nat.le_refl _) _).trans (hb.mono (by simp)))
    clear hb
    go_wp2
    go_ret
    exact ⟨rfl, unhide HB⟩
  · have h1 : ¬ (n : Int) = 0 := by omega
    have h2 : (n : Int) > 300 := by omega
    clear hf h0
    go_enter Try.func6, Try.ntmps6
    go_wp2_with fail
    refine (awake_any (unhide HC) _).mono ?_
    rintro e w' ⟨rfl, hb⟩
    have HB := hide (((Below.refl _ w).alloc (Nat.le_refl _) _).trans (hb.mono (by simp)))
    clear hb
    go_wp2
    go_ret
    exact ⟨rfl, unhide HB⟩

set_option maxRecDepth 100000 in
set_option maxHeartbeats 16000000 in
theorem finds_near (hc : CrcOk) (a : Option Addr) (n c : Nat) (t one two : Nat) (x : Nat → UInt8) (A : List UInt8) (w : World) (h : Bytes w (.slice a n c) A) (hn0 : 0 < n) (hn : n ≤ 300) (ht : t < 65536) (ho : one < 65536) (hw : two < 65536) : Calls Try.prog 6 #[.slice a n c, .int .u16 (t : Nat), .agg #[.int .u8 ((x 0).toNat : Nat), .int .u8 ((x 1).toNat : Nat), .int .u8 ((x 2).toNat : Nat), .int .u8 ((x 3).toNat : Nat)], .int .u16 (one : Nat), .int .u16 (two : Nat)] w fun e w' => e = .returned (.bool true) ∧ Below w.heap.size w w' := by
  have HC := hide hc
  obtain ⟨hl, _⟩ := bytes_len h
  have HL := hide hl
  have HH := hide h
  have g1 : ¬ (n : Int) = 0 := by omega
  have g2 : ¬ (n : Int) > 300 := by omega
  obtain ⟨m, hm, hmn⟩ : ∃ m : Nat, (t : Int) % (n : Int) = (m : Int) ∧ m < n := ⟨t % n, by omega, Nat.mod_lt _ hn0⟩
  obtain ⟨p, hp, hpn⟩ : ∃ p : Nat, (one : Int) % (8 * (n : Int)) = (p : Int) ∧ p < 8 * n := ⟨one % (8 * n), by rw [show 8 * (n : Int) = ((8 * n : Nat) : Int) by omega]; exact (Int.natCast_emod one (8 * n)).symm, Nat.mod_lt _ (by omega)⟩
  obtain ⟨q, hq, hqn⟩ : ∃ q : Nat, (two : Int) % (8 * (n : Int)) = (q : Int) ∧ q < 8 * n := ⟨two % (8 * n), by rw [show 8 * (n : Int) = ((8 * n : Nat) : Int) by omega]; exact (Int.natCast_emod two (8 * n)).symm, Nat.mod_lt _ (by omega)⟩
  have HM := hide hm
  have HP := hide hp
  have HQ := hide hq
  obtain ⟨ti, hti, hz0, hz1, hz2⟩ := infoByte
  clear hc h hl hm hp hq
  go_enter Try.func6, Try.ntmps6
  go_wp2_with fail
  have hb1 : Below w.heap.size w (w.alloc (.cells #[.int .u8 ((x 0).toNat : Nat), .int .u8 ((x 1).toNat : Nat), .int .u8 ((x 2).toNat : Nat), .int .u8 ((x 3).toNat : Nat)] 33)) := (Below.refl _ w).alloc (Nat.le_refl _) _
  have hx1 : (w.alloc (.cells #[.int .u8 ((x 0).toNat : Nat), .int .u8 ((x 1).toNat : Nat), .int .u8 ((x 2).toNat : Nat), .int .u8 ((x 3).toNat : Nat)] 33)).heap[w.heap.size]? = some (.cells #[.int .u8 ((x 0).toNat : Nat), .int .u8 ((x 1).toNat : Nat), .int .u8 ((x 2).toNat : Nat), .int .u8 ((x 3).toNat : Nat)] 33 (0, 0)) := heap_alloc_new w _
  obtain ⟨g, hg⟩ : ∃ g, g = w.heap.size := ⟨_, rfl⟩
  rw [← hg] at hx1 ⊢
  generalize w.alloc _ = w1 at *
  have HX1 := hide hx1
  have HB1 := hide hb1
  clear hx1 hb1 hg
  refine ((unhide HC).sum (.slice a n c) A _ ((unhide HH).kept fun k _ hk => (unhide HB1).block k hk) (by have := unhide HL; omega)).mono ?_
  rintro e w2 ⟨rfl, hb⟩
  have HB2 := hide ((unhide HB1).trans (hb.mono (unhide HB1).size))
  have HX2 : Hid (w2.heap[g]? = _) := (hb.block g (Array.getElem?_eq_some_iff.1 (unhide HX1)).1).trans (unhide HX1)
  clear hb HB1 HX1
  have HO := hide (own_nil w2)
  have HU := hide (((unhide HH).kept fun k _ hk => (unhide HB2).block k hk : Bytes w2 (.slice a n c) A).alloc (.cells #[] 5))
  go_wp2_with (at_builtin; refine wpList_append_bytes _ rfl _ _ 23 rfl 5 ti (.int .u8 0) Try.underlying23 hti hz0 hz1 hz2 rfl _ [] rfl (unhide HO) _ A rfl (unhide HU) (by have := unhide HL; simp; omega) ?_)
  rintro v3 w3 r1 r2 r3
  have r1 : w3.ownsRow 0 5 1 v3 A.length (A.map bv) := by simpa using r1
  have hbg : Below w2.heap.size w2 w3 := ((Below.refl _ w2).alloc (Nat.le_refl _) _).grown r2 (by simp) (fun k hk => by simp [Value.ownBlock] at hk; omega)
  have hnew : ∀ k, v3.ownBlock = some k → w.heap.size ≤ k := fun k hk => by
    have hs := (unhide HB2).size
    rcases r3 with e | ⟨k', e, hle⟩
    · rw [e] at hk; simp [Value.ownBlock] at hk; omega
    · rw [e] at hk; cases hk; omega
  have hv3 : ∃ b cc, v3 = .slice (some ⟨b, 0, none⟩) n cc := by
    rcases r1.2 with ⟨_, h0⟩ | ⟨b, cc, _, hv, _⟩
    · have := unhide HL; omega
    · rw [unhide HL] at hv; exact ⟨b, cc, hv⟩
  obtain ⟨b, cc, rfl⟩ := hv3
  have HR : Hid (FR w (.slice (some ⟨b, 0, none⟩) n cc) n m 0 A A 0 w3) := ⟨r1, unhide HL, by rw [Nat.mul_zero, Nat.xor_zero], Nat.two_pow_pos _, hnew, (unhide HB2).trans (hbg.mono (unhide HB2).size)⟩
  have hx3 : w3.heap[g]? = _ := (hbg.block g (Array.getElem?_eq_some_iff.1 (unhide HX2)).1).trans (unhide HX2)
  have y0 : w3.cell? ⟨g, 0, none⟩ = some (.int .u8 ((x 0).toNat : Nat)) := cell_of_row _ _ 0 _ _ _ hx3
  have y1 : w3.cell? ⟨g, 1, none⟩ = some (.int .u8 ((x 1).toNat : Nat)) := cell_of_row _ _ 1 _ _ _ hx3
  have y2 : w3.cell? ⟨g, 2, none⟩ = some (.int .u8 ((x 2).toNat : Nat)) := cell_of_row _ _ 2 _ _ _ hx3
  have y3 : w3.cell? ⟨g, 3, none⟩ = some (.int .u8 ((x 3).toNat : Nat)) := cell_of_row _ _ 3 _ _ _ hx3
  clear r1 r2 r3 hbg hnew HO HU HB2 HX2 hx3
  go_wp2_with fail
  clear y0 y1 y2 y3
  go_loopw [13, 35] (fun tu i W => ∃ (j : Nat) (zs : List UInt8) (E : Nat), j ≤ 4 ∧ i = .int .i64 j ∧ tu = .bool (decide (E ≠ 0)) ∧ FR w (.slice (some ⟨b, 0, none⟩) n cc) n m j A zs E W) (fun _ i _ => 4 - (intOf i).toNat)
  case atStart => exact ⟨0, A, 0, by omega, rfl, rfl, unhide HR⟩
  case round =>
    obtain ⟨j, zs, E, hj, rfl, rfl, hR⟩ := hrel
    have HR2 := hide hR
    clear hR HR
    by_cases hlt : j < 4
    · have hm := unhide HM
      rcases (show j = 0 ∨ j = 1 ∨ j = 2 ∨ j = 3 by omega) with rfl | rfl | rfl | rfl
      · by_cases hk : m + 0 < n
        · by_cases hx : x 0 = 0
          · have hx0 : ((((x 0).toNat : Nat) : Int) == 0) = true := by rw [hx]; rfl
            have hk' : (m : Int) < (n : Int) := by omega
            clear hx
            go_wp2_with (refine wpList_index rfl (.tmp 34) (.tmp 35) 33 rfl _ _ (.int .u8 ((x 0).toNat : Nat)) rfl rfl (by kernel_rfl) ?_)
            exact ⟨⟨0 + 1, zs, E, by omega, by go_num, by simp, (unhide HR2).more⟩, by simp [intOf]⟩
          · have hx0 : ((((x 0).toNat : Nat) : Int) == 0) = false := by
              have : (x 0).toNat ≠ 0 := fun e => hx (UInt8.toNat_inj.1 (by simpa using e))
              simpa using this
            have hk' : (m : Int) < (n : Int) := by omega
            obtain ⟨b', eb, c0, f0, _⟩ := own_at (unhide HR2).own (unhide HR2).len (show m < n from hk)
            simp only [Option.some.injEq, Addr.mk.injEq, and_true] at eb
            subst eb
            have HN : Hid (FR w (.slice (some ⟨b, 0, none⟩) n cc) n m (0 + 1) A (zs.set m (zs.getD m 0 ^^^ x 0)) (E ^^^ 2 ^ (8 * 0) * (x 0).toNat) (wr.setCell ⟨b, m, none⟩ (.int .u8 ((zs.getD m 0 ^^^ x 0).toNat : Nat))) ∧ E ^^^ 2 ^ (8 * 0) * (x 0).toNat ≠ 0) := (unhide HR2).put hk (x 0) hx
            have xx : bits .xor .u8 (((zs.getD m 0).toNat : Nat) : Int) (((x 0).toNat : Nat) : Int) = (((zs.getD m 0 ^^^ x 0).toNat : Nat) : Int) := by rw [u8_xor_nat _ _ (zs.getD m 0).toNat_lt (x 0).toNat_lt, toNat_xor8]
            generalize zs.getD m 0 ^^^ x 0 = yy at *
            generalize zs.getD m 0 = zz at *
            clear hx
            go_wp2_with (refine wpList_index rfl (.tmp 34) (.tmp 35) 33 rfl _ _ (.int .u8 ((x 0).toNat : Nat)) rfl rfl (by kernel_rfl) ?_)
            exact ⟨⟨0 + 1, _, _, by omega, by go_num, by rw [decide_eq_true (unhide HN).2], (unhide HN).1⟩, by simp [intOf]⟩
        · have hk' : ¬ (m : Int) < (n : Int) := by omega
          go_wp2_with (refine wpList_index rfl (.tmp 34) (.tmp 35) 33 rfl _ _ (.int .u8 ((x 0).toNat : Nat)) rfl rfl (by kernel_rfl) ?_)
          exact ⟨⟨0 + 1, zs, E, by omega, by go_num, by simp, (unhide HR2).more⟩, by simp [intOf]⟩
      · by_cases hk : m + 1 < n
        · by_cases hx : x 1 = 0
          · have hx0 : ((((x 1).toNat : Nat) : Int) == 0) = true := by rw [hx]; rfl
            have hk' : (m : Int) + 1 < (n : Int) := by omega
            clear hx
            go_wp2_with (refine wpList_index rfl (.tmp 34) (.tmp 35) 33 rfl _ _ (.int .u8 ((x 1).toNat : Nat)) rfl rfl (by kernel_rfl) ?_)
            exact ⟨⟨1 + 1, zs, E, by omega, by go_num, by simp, (unhide HR2).more⟩, by simp [intOf]⟩
          · have hx0 : ((((x 1).toNat : Nat) : Int) == 0) = false := by
              have : (x 1).toNat ≠ 0 := fun e => hx (UInt8.toNat_inj.1 (by simpa using e))
              simpa using this
            have hk' : (m : Int) + 1 < (n : Int) := by omega
            obtain ⟨b', eb, c0, f0, _⟩ := own_at (unhide HR2).own (unhide HR2).len (show (m + 1) < n from hk)
            simp only [Option.some.injEq, Addr.mk.injEq, and_true] at eb
            subst eb
            have HN : Hid (FR w (.slice (some ⟨b, 0, none⟩) n cc) n m (1 + 1) A (zs.set (m + 1) (zs.getD (m + 1) 0 ^^^ x 1)) (E ^^^ 2 ^ (8 * 1) * (x 1).toNat) (wr.setCell ⟨b, (m + 1), none⟩ (.int .u8 ((zs.getD (m + 1) 0 ^^^ x 1).toNat : Nat))) ∧ E ^^^ 2 ^ (8 * 1) * (x 1).toNat ≠ 0) := (unhide HR2).put hk (x 1) hx
            have xx : bits .xor .u8 (((zs.getD (m + 1) 0).toNat : Nat) : Int) (((x 1).toNat : Nat) : Int) = (((zs.getD (m + 1) 0 ^^^ x 1).toNat : Nat) : Int) := by rw [u8_xor_nat _ _ (zs.getD (m + 1) 0).toNat_lt (x 1).toNat_lt, toNat_xor8]
            generalize zs.getD (m + 1) 0 ^^^ x 1 = yy at *
            generalize zs.getD (m + 1) 0 = zz at *
            clear hx
            go_wp2_with (refine wpList_index rfl (.tmp 34) (.tmp 35) 33 rfl _ _ (.int .u8 ((x 1).toNat : Nat)) rfl rfl (by kernel_rfl) ?_)
            exact ⟨⟨1 + 1, _, _, by omega, by go_num, by rw [decide_eq_true (unhide HN).2], (unhide HN).1⟩, by simp [intOf]⟩
        · have hk' : ¬ (m : Int) + 1 < (n : Int) := by omega
          go_wp2_with (refine wpList_index rfl (.tmp 34) (.tmp 35) 33 rfl _ _ (.int .u8 ((x 1).toNat : Nat)) rfl rfl (by kernel_rfl) ?_)
          exact ⟨⟨1 + 1, zs, E, by omega, by go_num, by simp, (unhide HR2).more⟩, by simp [intOf]⟩
      · by_cases hk : m + 2 < n
        · by_cases hx : x 2 = 0
          · have hx0 : ((((x 2).toNat : Nat) : Int) == 0) = true := by rw [hx]; rfl
            have hk' : (m : Int) + 2 < (n : Int) := by omega
            clear hx
            go_wp2_with (refine wpList_index rfl (.tmp 34) (.tmp 35) 33 rfl _ _ (.int .u8 ((x 2).toNat : Nat)) rfl rfl (by kernel_rfl) ?_)
            exact ⟨⟨2 + 1, zs, E, by omega, by go_num, by simp, (unhide HR2).more⟩, by simp [intOf]⟩
          · have hx0 : ((((x 2).toNat : Nat) : Int) == 0) = false := by
              have : (x 2).toNat ≠ 0 := fun e => hx (UInt8.toNat_inj.1 (by simpa using e))
              simpa using this
            have hk' : (m : Int) + 2 < (n : Int) := by omega
            obtain ⟨b', eb, c0, f0, _⟩ := own_at (unhide HR2).own (unhide HR2).len (show (m + 2) < n from hk)
            simp only [Option.some.injEq, Addr.mk.injEq, and_true] at eb
            subst eb
            have HN : Hid (FR w (.slice (some ⟨b, 0, none⟩) n cc) n m (2 + 1) A (zs.set (m + 2) (zs.getD (m + 2) 0 ^^^ x 2)) (E ^^^ 2 ^ (8 * 2) * (x 2).toNat) (wr.setCell ⟨b, (m + 2), none⟩ (.int .u8 ((zs.getD (m + 2) 0 ^^^ x 2).toNat : Nat))) ∧ E ^^^ 2 ^ (8 * 2) * (x 2).toNat ≠ 0) := (unhide HR2).put hk (x 2) hx
            have xx : bits .xor .u8 (((zs.getD (m + 2) 0).toNat : Nat) : Int) (((x 2).toNat : Nat) : Int) = (((zs.getD (m + 2) 0 ^^^ x 2).toNat : Nat) : Int) := by rw [u8_xor_nat _ _ (zs.getD (m + 2) 0).toNat_lt (x 2).toNat_lt, toNat_xor8]
            generalize zs.getD (m + 2) 0 ^^^ x 2 = yy at *
            generalize zs.getD (m + 2) 0 = zz at *
            clear hx
            go_wp2_with (refine wpList_index rfl (.tmp 34) (.tmp 35) 33 rfl _ _ (.int .u8 ((x 2).toNat : Nat)) rfl rfl (by kernel_rfl) ?_)
            exact ⟨⟨2 + 1, _, _, by omega, by go_num, by rw [decide_eq_true (unhide HN).2], (unhide HN).1⟩, by simp [intOf]⟩
        · have hk' : ¬ (m : Int) + 2 < (n : Int) := by omega
          go_wp2_with (refine wpList_index rfl (.tmp 34) (.tmp 35) 33 rfl _ _ (.int .u8 ((x 2).toNat : Nat)) rfl rfl (by kernel_rfl) ?_)
          exact ⟨⟨2 + 1, zs, E, by omega, by go_num, by simp, (unhide HR2).more⟩, by simp [intOf]⟩
      · by_cases hk : m + 3 < n
        · by_cases hx : x 3 = 0
          · have hx0 : ((((x 3).toNat : Nat) : Int) == 0) = true := by rw [hx]; rfl
            have hk' : (m : Int) + 3 < (n : Int) := by omega
            clear hx
            go_wp2_with (refine wpList_index rfl (.tmp 34) (.tmp 35) 33 rfl _ _ (.int .u8 ((x 3).toNat : Nat)) rfl rfl (by kernel_rfl) ?_)
            exact ⟨⟨3 + 1, zs, E, by omega, by go_num, by simp, (unhide HR2).more⟩, by simp [intOf]⟩
          · have hx0 : ((((x 3).toNat : Nat) : Int) == 0) = false := by
              have : (x 3).toNat ≠ 0 := fun e => hx (UInt8.toNat_inj.1 (by simpa using e))
              simpa using this
            have hk' : (m : Int) + 3 < (n : Int) := by omega
            obtain ⟨b', eb, c0, f0, _⟩ := own_at (unhide HR2).own (unhide HR2).len (show (m + 3) < n from hk)
            simp only [Option.some.injEq, Addr.mk.injEq, and_true] at eb
            subst eb
            have HN : Hid (FR w (.slice (some ⟨b, 0, none⟩) n cc) n m (3 + 1) A (zs.set (m + 3) (zs.getD (m + 3) 0 ^^^ x 3)) (E ^^^ 2 ^ (8 * 3) * (x 3).toNat) (wr.setCell ⟨b, (m + 3), none⟩ (.int .u8 ((zs.getD (m + 3) 0 ^^^ x 3).toNat : Nat))) ∧ E ^^^ 2 ^ (8 * 3) * (x 3).toNat ≠ 0) := (unhide HR2).put hk (x 3) hx
            have xx : bits .xor .u8 (((zs.getD (m + 3) 0).toNat : Nat) : Int) (((x 3).toNat : Nat) : Int) = (((zs.getD (m + 3) 0 ^^^ x 3).toNat : Nat) : Int) := by rw [u8_xor_nat _ _ (zs.getD (m + 3) 0).toNat_lt (x 3).toNat_lt, toNat_xor8]
            generalize zs.getD (m + 3) 0 ^^^ x 3 = yy at *
            generalize zs.getD (m + 3) 0 = zz at *
            clear hx
            go_wp2_with (refine wpList_index rfl (.tmp 34) (.tmp 35) 33 rfl _ _ (.int .u8 ((x 3).toNat : Nat)) rfl rfl (by kernel_rfl) ?_)
            exact ⟨⟨3 + 1, _, _, by omega, by go_num, by rw [decide_eq_true (unhide HN).2], (unhide HN).1⟩, by simp [intOf]⟩
        · have hk' : ¬ (m : Int) + 3 < (n : Int) := by omega
          go_wp2_with (refine wpList_index rfl (.tmp 34) (.tmp 35) 33 rfl _ _ (.int .u8 ((x 3).toNat : Nat)) rfl rfl (by kernel_rfl) ?_)
          exact ⟨⟨3 + 1, zs, E, by omega, by go_num, by simp, (unhide HR2).more⟩, by simp [intOf]⟩
    · have e : j = 4 := by omega
      subst e
      have hE4 : E < 4294967296 := by have := (unhide HR2).lt; simpa using this
      have htold := (unhide HR2).told (unhide HL) (by omega) hE4
      clear hlt hj hE4
      by_cases hE : E = 0
      · subst hE
        have HS : Hid (sumB zs = sumB A) := htold.2 rfl
        clear htold
        go_wp2_with fail
        refine ((unhide HC).sum _ zs _ (bytes_of_owns (unhide HR2).own) (by rw [(unhide HR2).len]; omega)).mono ?_
        rintro e w4 ⟨rfl, hb4⟩
        have HB4 := hide ((unhide HR2).bb.trans (hb4.mono (unhide HR2).bb.size))
        clear hb4 HR2
        rw [unhide HS]
        clear HS
        go_upto_region 16 with fail
        have HO := hide (own_nil w4)
        have HU := hide (((unhide HH).kept fun k _ hk => (unhide HB4).block k hk : Bytes w4 (.slice a n c) A).alloc (.cells #[] 5))
        go_wp2_with (at_builtin; refine wpList_append_bytes _ rfl _ _ 23 rfl 5 ti (.int .u8 0) Try.underlying23 hti hz0 hz1 hz2 rfl _ [] rfl (unhide HO) _ A rfl (unhide HU) (by have := unhide HL; simp; omega) ?_)
        rintro v5 w5 r1 r2 r3
        have r1 : w5.ownsRow 0 5 1 v5 A.length (A.map bv) := by simpa using r1
        have hbg : Below w4.heap.size w4 w5 := ((Below.refl _ w4).alloc (Nat.le_refl _) _).grown r2 (by simp) (fun k hk => by simp [Value.ownBlock] at hk; omega)
        have hnew : ∀ k, v5.ownBlock = some k → w.heap.size ≤ k := fun k hk => by
          have hs := (unhide HB4).size
          rcases r3 with e | ⟨k', e, hle⟩
          · rw [e] at hk; simp [Value.ownBlock] at hk; omega
          · rw [e] at hk; cases hk; omega
        have hv5 : ∃ b cc, v5 = .slice (some ⟨b, 0, none⟩) n cc := by
          rcases r1.2 with ⟨_, h0⟩ | ⟨b, cc, _, hv, _⟩
          · have := unhide HL; omega
          · rw [unhide HL] at hv; exact ⟨b, cc, hv⟩
        obtain ⟨b5, c5, rfl⟩ := hv5
        have HG : Hid (GR w (.slice (some ⟨b5, 0, none⟩) n c5) n A A 0 w5) := ⟨r1, unhide HL, by rw [Nat.xor_zero], hnew, (unhide HB4).trans (hbg.mono (unhide HB4).size)⟩
        clear r1 r2 r3 hbg hnew HO HU HB4
        have hmul : IntKind.i64.wrap (8 * (n : Int)) = 8 * (n : Int) := by rw [IntKind.wrap_i64]; omega
        have hnz : ¬ 8 * (n : Int) = 0 := by omega
        have hp := unhide HP
        have hq := unhide HQ
        go_upto_region 17 with fail
        go_region
        clear hp hq hmul hnz
        go_upto_region 18 with fail
        rw [unhide HP, unhide HQ]
        obtain ⟨P8, hP8⟩ : ∃ P8, P8 = p / 8 := ⟨_, rfl⟩
        obtain ⟨R8, hR8⟩ : ∃ R8, R8 = p % 8 := ⟨_, rfl⟩
        have d1 : (p : Int) / 8 = (P8 : Int) := by omega
        have d2 : (p : Int) % 8 = (R8 : Int) := by omega
        have d3 : (P8 : Int) < (n : Int) := by omega
        have d4 : P8 < n := by omega
        have d5 : (R8 : Int) ≤ 8 := by omega
        have d6 : IntKind.u8.wrap (2 ^ R8) = (((bitOf p).toNat : Nat) : Int) := by
          rw [bitOf_toNat, ← hR8, IntKind.wrap_u8']
          have h2 : 2 ^ R8 < 2 ^ 8 := Nat.pow_lt_pow_right (by decide) (by omega)
          have h3 : ((2 ^ R8 : Nat) : Int) = (2 : Int) ^ R8 := by simp
          rw [← h3]
          clear h3
          generalize 2 ^ R8 = vv at *
          omega
        have HPUT : Hid (GR w (.slice (some ⟨b5, 0, none⟩) n c5) n A (A.set P8 (A.getD P8 0 ^^^ bitOf p)) (0 ^^^ 2 ^ p) (World.setCell w5 ⟨b5, P8, none⟩ (.int .u8 ((A.getD P8 0 ^^^ bitOf p).toNat : Nat)))) := by rw [hP8]; exact (unhide HG).put hpn
        obtain ⟨b', eb, c0, f0, _⟩ := own_at (unhide HG).own (unhide HG).len d4
        simp only [Option.some.injEq, Addr.mk.injEq, and_true] at eb
        subst eb
        have xx : bits .xor .u8 (((A.getD P8 0).toNat : Nat) : Int) (((bitOf p).toNat : Nat) : Int) = (((A.getD P8 0 ^^^ bitOf p).toNat : Nat) : Int) := by rw [u8_xor_nat _ _ (A.getD P8 0).toNat_lt (bitOf p).toNat_lt, toNat_xor8]
        obtain ⟨G2z, hG2z⟩ : ∃ z, z = A.set P8 (A.getD P8 0 ^^^ bitOf p) := ⟨_, rfl⟩
        rw [← hG2z] at HPUT
        generalize A.getD P8 0 ^^^ bitOf p = yy at *
        generalize A.getD P8 0 = zz at *
        generalize bitOf p = bp at *
        clear hP8 hR8 hG2z
        go_region
        have HG2 := hide (unhide HPUT).drew.drew
        clear HPUT d1 d2 d3 d4 d5 d6 xx c0 f0
        generalize World.drew (World.drew (World.setCell w5 _ _)) = w6 at *
        have hn1 : ¬ sumB G2z = sumB A := fun h => one_bit hpn (((unhide HG2).told (unhide HL)).1 h)
        have hn2 : ¬ ((sumB G2z : Nat) : Int) = ((sumB A : Nat) : Int) := by omega
        have hn3 : (((sumB G2z : Nat) : Int) == ((sumB A : Nat) : Int)) = false := beq_eq_false_iff_ne.2 hn2
        go_wp2_with fail
        refine ((unhide HC).sum _ G2z _ (bytes_of_owns (unhide HG2).own) (by rw [(unhide HG2).len]; omega)).mono ?_
        rintro e w7 ⟨rfl, hb⟩
        have HG3 := hide ((unhide HG2).later hb)
        clear hb HG2 HG
        go_upto_region 21 with fail
        clear hn1 hn2 hn3
        obtain ⟨P8, hP8⟩ : ∃ P8, P8 = q / 8 := ⟨_, rfl⟩
        obtain ⟨R8, hR8⟩ : ∃ R8, R8 = q % 8 := ⟨_, rfl⟩
        have d1 : (q : Int) / 8 = (P8 : Int) := by omega
        have d2 : (q : Int) % 8 = (R8 : Int) := by omega
        have d3 : (P8 : Int) < (n : Int) := by omega
        have d4 : P8 < n := by omega
        have d5 : (R8 : Int) ≤ 8 := by omega
        have d6 : IntKind.u8.wrap (2 ^ R8) = (((bitOf q).toNat : Nat) : Int) := by
          rw [bitOf_toNat, ← hR8, IntKind.wrap_u8']
          have h2 : 2 ^ R8 < 2 ^ 8 := Nat.pow_lt_pow_right (by decide) (by omega)
          have h3 : ((2 ^ R8 : Nat) : Int) = (2 : Int) ^ R8 := by simp
          rw [← h3]
          clear h3
          generalize 2 ^ R8 = vv at *
          omega
        have HPUT : Hid (GR w (.slice (some ⟨b5, 0, none⟩) n c5) n A (G2z.set P8 (G2z.getD P8 0 ^^^ bitOf q)) (0 ^^^ 2 ^ p ^^^ 2 ^ q) (World.setCell w7 ⟨b5, P8, none⟩ (.int .u8 ((G2z.getD P8 0 ^^^ bitOf q).toNat : Nat)))) := by rw [hP8]; exact (unhide HG3).put hqn
        obtain ⟨b', eb, c0, f0, _⟩ := own_at (unhide HG3).own (unhide HG3).len d4
        simp only [Option.some.injEq, Addr.mk.injEq, and_true] at eb
        subst eb
        have xx : bits .xor .u8 (((G2z.getD P8 0).toNat : Nat) : Int) (((bitOf q).toNat : Nat) : Int) = (((G2z.getD P8 0 ^^^ bitOf q).toNat : Nat) : Int) := by rw [u8_xor_nat _ _ (G2z.getD P8 0).toNat_lt (bitOf q).toNat_lt, toNat_xor8]
        obtain ⟨G4z, hG4z⟩ : ∃ z, z = G2z.set P8 (G2z.getD P8 0 ^^^ bitOf q) := ⟨_, rfl⟩
        rw [← hG4z] at HPUT
        generalize G2z.getD P8 0 ^^^ bitOf q = yy at *
        generalize G2z.getD P8 0 = zz at *
        generalize bitOf q = bp at *
        clear hP8 hR8 hG4z
        go_region
        have HG4 := hide (unhide HPUT).drew
        clear HPUT d1 d2 d3 d4 d5 d6 xx c0 f0
        generalize World.drew (World.setCell w7 _ _) = w8 at *
        have ht4 := (unhide HG4).told (unhide HL)
        rw [Nat.zero_xor, two_bits hpn hqn hn] at ht4
        by_cases hpq : p = q
        · have HS : Hid (sumB G4z = sumB A) := ht4.2 hpq
          subst hpq
          clear ht4
          go_wp2_with fail
          refine ((unhide HC).sum _ G4z _ (bytes_of_owns (unhide HG4).own) (by rw [(unhide HG4).len]; omega)).mono ?_
          rintro e w9 ⟨rfl, hb⟩
          rw [unhide HS]
          have HB := hide ((unhide HG4).bb.trans (hb.mono (unhide HG4).bb.size))
          clear hb
          go_wp2_with fail
          refine (awake_any (unhide HC) _).mono ?_
          rintro e w10 ⟨rfl, hb⟩
          have HB2 := hide ((unhide HB).trans (hb.mono (unhide HB).size))
          clear hb
          go_wp2_with fail
          go_ret
          exact ⟨rfl, unhide HB2⟩
        · have hn1 : ¬ sumB G4z = sumB A := fun h => hpq (ht4.1 h)
          have hn2 : ¬ ((sumB G4z : Nat) : Int) = ((sumB A : Nat) : Int) := by omega
          have hn3 : (((sumB G4z : Nat) : Int) == ((sumB A : Nat) : Int)) = false := beq_eq_false_iff_ne.2 hn2
          have hn4 : ¬ (p : Int) = (q : Int) := by omega
          have hn5 : ((p : Int) == (q : Int)) = false := beq_eq_false_iff_ne.2 hn4
          clear ht4
          go_wp2_with fail
          refine ((unhide HC).sum _ G4z _ (bytes_of_owns (unhide HG4).own) (by rw [(unhide HG4).len]; omega)).mono ?_
          rintro e w9 ⟨rfl, hb⟩
          have HB := hide ((unhide HG4).bb.trans (hb.mono (unhide HG4).bb.size))
          clear hb
          go_wp2_with fail
          refine (awake_any (unhide HC) _).mono ?_
          rintro e w10 ⟨rfl, hb⟩
          have HB2 := hide ((unhide HB).trans (hb.mono (unhide HB).size))
          clear hb
          go_wp2_with fail
          go_ret
          exact ⟨rfl, unhide HB2⟩
      · have hne0 : ¬ sumB zs = sumB A := fun h => hE (htold.1 h)
        have hne1 : ¬ ((sumB zs : Nat) : Int) = ((sumB A : Nat) : Int) := by omega
        have hne2 : (((sumB zs : Nat) : Int) == ((sumB A : Nat) : Int)) = false := beq_eq_false_iff_ne.2 hne1
        have hne3 : (((sumB zs : Nat) : Int) != ((sumB A : Nat) : Int)) = true := bne_iff_ne.2 hne1
        clear htold
        go_wp2_with fail
        refine ((unhide HC).sum _ zs _ (bytes_of_owns (unhide HR2).own) (by rw [(unhide HR2).len]; omega)).mono ?_
        rintro e w4 ⟨rfl, hb4⟩
        have HB4 := hide ((unhide HR2).bb.trans (hb4.mono (unhide HR2).bb.size))
        clear hb4 HR2
        go_upto_region 16 with fail
        clear hne0 hne1 hne2 hne3
        have HO := hide (own_nil w4)
        have HU := hide (((unhide HH).kept fun k _ hk => (unhide HB4).block k hk : Bytes w4 (.slice a n c) A).alloc (.cells #[] 5))
        go_wp2_with (at_builtin; refine wpList_append_bytes _ rfl _ _ 23 rfl 5 ti (.int .u8 0) Try.underlying23 hti hz0 hz1 hz2 rfl _ [] rfl (unhide HO) _ A rfl (unhide HU) (by have := unhide HL; simp; omega) ?_)
        rintro v5 w5 r1 r2 r3
        have r1 : w5.ownsRow 0 5 1 v5 A.length (A.map bv) := by simpa using r1
        have hbg : Below w4.heap.size w4 w5 := ((Below.refl _ w4).alloc (Nat.le_refl _) _).grown r2 (by simp) (fun k hk => by simp [Value.ownBlock] at hk; omega)
        have hnew : ∀ k, v5.ownBlock = some k → w.heap.size ≤ k := fun k hk => by
          have hs := (unhide HB4).size
          rcases r3 with e | ⟨k', e, hle⟩
          · rw [e] at hk; simp [Value.ownBlock] at hk; omega
          · rw [e] at hk; cases hk; omega
        have hv5 : ∃ b cc, v5 = .slice (some ⟨b, 0, none⟩) n cc := by
          rcases r1.2 with ⟨_, h0⟩ | ⟨b, cc, _, hv, _⟩
          · have := unhide HL; omega
          · rw [unhide HL] at hv; exact ⟨b, cc, hv⟩
        obtain ⟨b5, c5, rfl⟩ := hv5
        have HG : Hid (GR w (.slice (some ⟨b5, 0, none⟩) n c5) n A A 0 w5) := ⟨r1, unhide HL, by rw [Nat.xor_zero], hnew, (unhide HB4).trans (hbg.mono (unhide HB4).size)⟩
        clear r1 r2 r3 hbg hnew HO HU HB4
        have hmul : IntKind.i64.wrap (8 * (n : Int)) = 8 * (n : Int) := by rw [IntKind.wrap_i64]; omega
        have hnz : ¬ 8 * (n : Int) = 0 := by omega
        have hp := unhide HP
        have hq := unhide HQ
        go_upto_region 17 with fail
        go_region
        clear hp hq hmul hnz
        go_upto_region 18 with fail
        rw [unhide HP, unhide HQ]
        obtain ⟨P8, hP8⟩ : ∃ P8, P8 = p / 8 := ⟨_, rfl⟩
        obtain ⟨R8, hR8⟩ : ∃ R8, R8 = p % 8 := ⟨_, rfl⟩
        have d1 : (p : Int) / 8 = (P8 : Int) := by omega
        have d2 : (p : Int) % 8 = (R8 : Int) := by omega
        have d3 : (P8 : Int) < (n : Int) := by omega
        have d4 : P8 < n := by omega
        have d5 : (R8 : Int) ≤ 8 := by omega
        have d6 : IntKind.u8.wrap (2 ^ R8) = (((bitOf p).toNat : Nat) : Int) := by
          rw [bitOf_toNat, ← hR8, IntKind.wrap_u8']
          have h2 : 2 ^ R8 < 2 ^ 8 := Nat.pow_lt_pow_right (by decide) (by omega)
          have h3 : ((2 ^ R8 : Nat) : Int) = (2 : Int) ^ R8 := by simp
          rw [← h3]
          clear h3
          generalize 2 ^ R8 = vv at *
          omega
        have HPUT : Hid (GR w (.slice (some ⟨b5, 0, none⟩) n c5) n A (A.set P8 (A.getD P8 0 ^^^ bitOf p)) (0 ^^^ 2 ^ p) (World.setCell w5 ⟨b5, P8, none⟩ (.int .u8 ((A.getD P8 0 ^^^ bitOf p).toNat : Nat)))) := by rw [hP8]; exact (unhide HG).put hpn
        obtain ⟨b', eb, c0, f0, _⟩ := own_at (unhide HG).own (unhide HG).len d4
        simp only [Option.some.injEq, Addr.mk.injEq, and_true] at eb
        subst eb
        have xx : bits .xor .u8 (((A.getD P8 0).toNat : Nat) : Int) (((bitOf p).toNat : Nat) : Int) = (((A.getD P8 0 ^^^ bitOf p).toNat : Nat) : Int) := by rw [u8_xor_nat _ _ (A.getD P8 0).toNat_lt (bitOf p).toNat_lt, toNat_xor8]
        obtain ⟨G2z, hG2z⟩ : ∃ z, z = A.set P8 (A.getD P8 0 ^^^ bitOf p) := ⟨_, rfl⟩
        rw [← hG2z] at HPUT
        generalize A.getD P8 0 ^^^ bitOf p = yy at *
        generalize A.getD P8 0 = zz at *
        generalize bitOf p = bp at *
        clear hP8 hR8 hG2z
        go_region
        have HG2 := hide (unhide HPUT).drew.drew
        clear HPUT d1 d2 d3 d4 d5 d6 xx c0 f0
        generalize World.drew (World.drew (World.setCell w5 _ _)) = w6 at *
        have hn1 : ¬ sumB G2z = sumB A := fun h => one_bit hpn (((unhide HG2).told (unhide HL)).1 h)
        have hn2 : ¬ ((sumB G2z : Nat) : Int) = ((sumB A : Nat) : Int) := by omega
        have hn3 : (((sumB G2z : Nat) : Int) == ((sumB A : Nat) : Int)) = false := beq_eq_false_iff_ne.2 hn2
        go_wp2_with fail
        refine ((unhide HC).sum _ G2z _ (bytes_of_owns (unhide HG2).own) (by rw [(unhide HG2).len]; omega)).mono ?_
        rintro e w7 ⟨rfl, hb⟩
        have HG3 := hide ((unhide HG2).later hb)
        clear hb HG2 HG
        go_upto_region 21 with fail
        clear hn1 hn2 hn3
        obtain ⟨P8, hP8⟩ : ∃ P8, P8 = q / 8 := ⟨_, rfl⟩
        obtain ⟨R8, hR8⟩ : ∃ R8, R8 = q % 8 := ⟨_, rfl⟩
        have d1 : (q : Int) / 8 = (P8 : Int) := by omega
        have d2 : (q : Int) % 8 = (R8 : Int) := by omega
        have d3 : (P8 : Int) < (n : Int) := by omega
        have d4 : P8 < n := by omega
        have d5 : (R8 : Int) ≤ 8 := by omega
        have d6 : IntKind.u8.wrap (2 ^ R8) = (((bitOf q).toNat : Nat) : Int) := by
          rw [bitOf_toNat, ← hR8, IntKind.wrap_u8']
          have h2 : 2 ^ R8 < 2 ^ 8 := Nat.pow_lt_pow_right (by decide) (by omega)
          have h3 : ((2 ^ R8 : Nat) : Int) = (2 : Int) ^ R8 := by simp
          rw [← h3]
          clear h3
          generalize 2 ^ R8 = vv at *
          omega
        have HPUT : Hid (GR w (.slice (some ⟨b5, 0, none⟩) n c5) n A (G2z.set P8 (G2z.getD P8 0 ^^^ bitOf q)) (0 ^^^ 2 ^ p ^^^ 2 ^ q) (World.setCell w7 ⟨b5, P8, none⟩ (.int .u8 ((G2z.getD P8 0 ^^^ bitOf q).toNat : Nat)))) := by rw [hP8]; exact (unhide HG3).put hqn
        obtain ⟨b', eb, c0, f0, _⟩ := own_at (unhide HG3).own (unhide HG3).len d4
        simp only [Option.some.injEq, Addr.mk.injEq, and_true] at eb
        subst eb
        have xx : bits .xor .u8 (((G2z.getD P8 0).toNat : Nat) : Int) (((bitOf q).toNat : Nat) : Int) = (((G2z.getD P8 0 ^^^ bitOf q).toNat : Nat) : Int) := by rw [u8_xor_nat _ _ (G2z.getD P8 0).toNat_lt (bitOf q).toNat_lt, toNat_xor8]
        obtain ⟨G4z, hG4z⟩ : ∃ z, z = G2z.set P8 (G2z.getD P8 0 ^^^ bitOf q) := ⟨_, rfl⟩
        rw [← hG4z] at HPUT
        generalize G2z.getD P8 0 ^^^ bitOf q = yy at *
        generalize G2z.getD P8 0 = zz at *
        generalize bitOf q = bp at *
        clear hP8 hR8 hG4z
        go_region
        have HG4 := hide (unhide HPUT).drew
        clear HPUT d1 d2 d3 d4 d5 d6 xx c0 f0
        generalize World.drew (World.setCell w7 _ _) = w8 at *
        have ht4 := (unhide HG4).told (unhide HL)
        rw [Nat.zero_xor, two_bits hpn hqn hn] at ht4
        by_cases hpq : p = q
        · have HS : Hid (sumB G4z = sumB A) := ht4.2 hpq
          subst hpq
          clear ht4
          go_wp2_with fail
          refine ((unhide HC).sum _ G4z _ (bytes_of_owns (unhide HG4).own) (by rw [(unhide HG4).len]; omega)).mono ?_
          rintro e w9 ⟨rfl, hb⟩
          rw [unhide HS]
          have HB := hide ((unhide HG4).bb.trans (hb.mono (unhide HG4).bb.size))
          clear hb
          go_wp2_with fail
          refine (awake_any (unhide HC) _).mono ?_
          rintro e w10 ⟨rfl, hb⟩
          have HB2 := hide ((unhide HB).trans (hb.mono (unhide HB).size))
          clear hb
          go_wp2_with fail
          go_ret
          exact ⟨rfl, unhide HB2⟩
        · have hn1 : ¬ sumB G4z = sumB A := fun h => hpq (ht4.1 h)
          have hn2 : ¬ ((sumB G4z : Nat) : Int) = ((sumB A : Nat) : Int) := by omega
          have hn3 : (((sumB G4z : Nat) : Int) == ((sumB A : Nat) : Int)) = false := beq_eq_false_iff_ne.2 hn2
          have hn4 : ¬ (p : Int) = (q : Int) := by omega
          have hn5 : ((p : Int) == (q : Int)) = false := beq_eq_false_iff_ne.2 hn4
          clear ht4
          go_wp2_with fail
          refine ((unhide HC).sum _ G4z _ (bytes_of_owns (unhide HG4).own) (by rw [(unhide HG4).len]; omega)).mono ?_
          rintro e w9 ⟨rfl, hb⟩
          have HB := hide ((unhide HG4).bb.trans (hb.mono (unhide HG4).bb.size))
          clear hb
          go_wp2_with fail
          refine (awake_any (unhide HC) _).mono ?_
          rintro e w10 ⟨rfl, hb⟩
          have HB2 := hide ((unhide HB).trans (hb.mono (unhide HB).size))
          clear hb
          go_wp2_with fail
          go_ret
          exact ⟨rfl, unhide HB2⟩

theorem crcFinds_any (hc : CrcOk) (a : Option Addr) (n c : Nat) (t one two : Nat) (cs : Array Value) (x : Nat → UInt8) (hcs : cs = #[.int .u8 ((x 0).toNat : Nat), .int .u8 ((x 1).toNat : Nat), .int .u8 ((x 2).toNat : Nat), .int .u8 ((x 3).toNat : Nat)]) (A : List UInt8) (w : World) (h : Bytes w (.slice a n c) A) (ht : t < 65536) (ho : one < 65536) (hw : two < 65536) : Calls Try.prog 6 #[.slice a n c, .int .u16 (t : Nat), .agg cs, .int .u16 (one : Nat), .int .u16 (two : Nat)] w fun e w' => e = .returned (.bool true) ∧ Below w.heap.size w w' := by
  subst hcs
  by_cases hf : n = 0 ∨ 300 < n
  · exact finds_far hc a n c t one two x w hf
  · exact finds_near hc a n c t one two x A w h (by omega) (by omega) ht ho hw
end Go.Proofs.Ytjnhafchcajlbaa
