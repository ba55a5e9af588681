/- The chapter's examples, walked over HeadOk. -/
import Derived.Test.YtoabpjdpdcpdlaaHeadOk
namespace Go.Proofs.Ytoabpjdpdcpdlaa
open Go.RowKit

theorem bytes_block {W : World} {g : Nat} {t : TypeId} {fr : Nat × Nat} {bs : List UInt8} {cs : Array Value} (h : W.heap[g]? = some (.cells cs t fr)) (hc : cs = (bs.map bv).toArray) (hl : bs.length ≤ 1000) : Bytes W (.slice (some ⟨g, 0, none⟩) bs.length bs.length) bs := by
  refine .inr ⟨⟨g, 0, none⟩, bs.length, rfl, Nat.le_refl _, by unfold maxLen; omega, fun j x hx => ?_⟩
  rw [Addr.add_mid, Nat.zero_add, cell_of_row _ _ _ _ _ _ h, hc]
  simpa using hx

theorem exB3 : hbOf ⟨3, 1, 1⟩ = [3, 0, 0, 0, 0, 0, 0, 0, 1, 0, 0, 0, 0, 0, 0, 0, 1, 0, 0, 0, 0, 0, 0, 0, 3, 0, 0, 0, 0, 0, 0, 0] := by decide +kernel
theorem head_ext {h : HeadD} {s e l : Nat} (a : h.s = s) (b : h.e = e) (c : h.l = l) : h = ⟨s, e, l⟩ := by
  subst a b c; rfl
theorem exPick : pickV (hbOf ⟨2, 0, 0⟩) (hbOf ⟨3, 1, 1⟩) = ⟨3, 1, 1⟩ ∧ (pickH (hbOf ⟨2, 0, 0⟩) (hbOf ⟨3, 1, 1⟩)).isSome = true ∧ pickV (hbOf ⟨3, 1, 1⟩) [] = ⟨0, 0, 0⟩ ∧ (pickH (hbOf ⟨3, 1, 1⟩) []).isSome = false :=
  ⟨head_ext (by decide +kernel) (by decide +kernel) (by decide +kernel), by decide +kernel, head_ext (by decide +kernel) (by decide +kernel) (by decide +kernel), by decide +kernel⟩
theorem ex_same (u v : Value) (w : World) (hu : Bytes w u (hbOf ⟨3, 1, 1⟩)) (hv : Bytes w v [3, 0, 0, 0, 0, 0, 0, 0, 1, 0, 0, 0, 0, 0, 0, 0, 1, 0, 0, 0, 0, 0, 0, 0, 3, 0, 0, 0, 0, 0, 0, 0]) : Calls Try.prog 16 #[u, v] w fun e w' => e = .returned (.bool true) ∧ w' = w :=
  (low_same u v _ _ w hu hv).mono fun x W ⟨hx, hb⟩ => ⟨by rw [hx, exB3]; simp, hb⟩
theorem ex_bytes3 (ho : HeadOk) (w : World) : Calls Try.prog 10 #[.agg #[.int .u64 3, .int .u64 1, .int .u8 1]] w fun e' w' => ∃ a c, e' = .returned (.tuple #[.slice a 32 c, .int .i64 0]) ∧ Bytes w' (.slice a 32 c) (hbOf ⟨3, 1, 1⟩) ∧ Below w.heap.size w w' := by
  refine (ho.pure.bytes 3 1 1 w ⟨by decide, by decide, by decide⟩).mono fun x W ⟨v, hx, hv, hb⟩ => ?_
  obtain ⟨a, c, ev, _⟩ := hv.form
  subst ev
  exact ⟨a, c, hx, hv, hb⟩
theorem ex_bytes2 (ho : HeadOk) (w : World) : Calls Try.prog 10 #[.agg #[.int .u64 2, .int .u64 0, .int .u8 0]] w fun e' w' => ∃ a c, e' = .returned (.tuple #[.slice a 32 c, .int .i64 0]) ∧ Bytes w' (.slice a 32 c) (hbOf ⟨2, 0, 0⟩) ∧ Below w.heap.size w w' := by
  refine (ho.pure.bytes 2 0 0 w ⟨by decide, by decide, by decide⟩).mono fun x W ⟨v, hx, hv, hb⟩ => ?_
  obtain ⟨a, c, ev, _⟩ := hv.form
  subst ev
  exact ⟨a, c, hx, hv, hb⟩
theorem ex_pick1 (ho : HeadOk) (u v : Value) (w : World) (hu : Bytes w u (hbOf ⟨2, 0, 0⟩)) (hv : Bytes w v (hbOf ⟨3, 1, 1⟩)) : Calls Try.prog 14 #[u, v] w fun e' w' => e' = .returned (.tuple #[.agg #[.int .u64 3, .int .u64 1, .int .u8 1], .bool true]) ∧ Below w.heap.size w w' := by
  refine (ho.pure.pick u v _ _ w hu hv).mono fun x W ⟨hx, hb⟩ => ⟨?_, hb⟩
  rw [hx, exPick.1, exPick.2.1]; rfl
theorem ex_pick2 (ho : HeadOk) (u : Value) (w : World) (hu : Bytes w u (hbOf ⟨3, 1, 1⟩)) : Calls Try.prog 14 #[u, .slice none 0 0] w fun e' w' => e' = .returned (.tuple #[.agg #[.int .u64 0, .int .u64 0, .int .u8 0], .bool false]) ∧ Below w.heap.size w w' := by
  refine (ho.pure.pick u (.slice none 0 0) _ [] w hu (.inl ⟨rfl, rfl⟩)).mono fun x W ⟨hx, hb⟩ => ⟨?_, hb⟩
  rw [hx, exPick.2.2.1, exPick.2.2.2]; rfl
section
variable {w W : World} {L : List (Value × List UInt8)} {M : List (Nat × Array Value)} {p : Nat} {A : AD}
theorem ex_new (h : Kh w W L M) : Calls Try.prog 19 #[.int .i64 10] W fun x W' => ∃ p, x = .returned (.tuple #[.pointer (some ⟨p, 0, none⟩), .int .i64 0]) ∧ Kd w W' L M p (AD.new 10) := kNew h 10 (by decide) (by decide)
theorem ex_load0 (ho : HeadOk) (h : Kd w W L M p (AD.new 10)) : Calls Try.prog 23 #[.pointer (some ⟨p, 0, none⟩)] W fun x W' => x = .returned (.tuple #[.agg #[.int .u64 0, .int .u64 0, .int .u8 0], .int .i64 50]) ∧ Kd w W' L M p (AD.new 10) :=
  kLoad ho h 0 0 0 50 ((Slots.new 10).load0 rfl).1 ((Slots.new 10).load0 rfl).2
theorem ex_save (ho : HeadOk) (h : Kd w W L M p (AD.new 10)) : Calls Try.prog 21 #[.pointer (some ⟨p, 0, none⟩), .agg #[.int .u64 0, .int .u64 0, .int .u8 0]] W fun x W' => x = .returned (.tuple #[.agg #[.int .u64 1, .int .u64 0, .int .u8 0], .int .i64 0]) ∧ ∃ A, Slots A ⟨1, 0, 0⟩ ⟨0, 0, 0⟩ ∧ Kd w W' L M p A := by
  obtain ⟨a, b, c⟩ := (Slots.new 10).save (h := ⟨0, 0, 0⟩) rfl ⟨by decide, by decide, by decide⟩ (by decide) (by decide)
  exact (kSave ho h 0 0 0 1 0 0 0 ⟨by decide, by decide, by decide⟩ a b).mono fun x W' ⟨hx, hk⟩ => ⟨hx, _, c, hk⟩
theorem ex_load1 (ho : HeadOk) (hA : Slots A ⟨1, 0, 0⟩ ⟨0, 0, 0⟩) (h : Kd w W L M p A) : Calls Try.prog 23 #[.pointer (some ⟨p, 0, none⟩)] W fun x W' => x = .returned (.tuple #[.agg #[.int .u64 1, .int .u64 0, .int .u8 0], .int .i64 0]) ∧ Kd w W' L M p A :=
  kLoad ho h 1 0 0 0 (hA.load (by decide)).1 (hA.load (by decide)).2
end

set_option maxRecDepth 100000 in
set_option maxHeartbeats 8000000 in
theorem headAwake_of (ho : HeadOk) : HeadAwake := by
  intro w
  have HO := hide ho
  clear ho
  go_enter Try.func9, Try.ntmps9
  go_wp2_with fail
  refine (ex_bytes3 (unhide HO) _).mono ?_
  rintro e w1 ⟨a1, c1, rfl, hv1, hb1⟩
  have HK1 := hide (((Kh.start w).later hb1).addB hv1)
  clear hv1 hb1
  go_wp2_with fail
  refine (ex_bytes2 (unhide HO) _).mono ?_
  rintro e w2 ⟨a2, c2, rfl, hv2, hb2⟩
  have HK2 := hide (((unhide HK1).later hb2).addB hv2)
  clear hv2 hb2 HK1
  go_wp2_with fail
  have HK3 := hide ((unhide HK2).later ((Below.refl _ w2).alloc (Nat.le_refl _) (.cells #[.int .u8 3, .int .u8 0, .int .u8 0, .int .u8 0, .int .u8 0, .int .u8 0, .int .u8 0, .int .u8 0, .int .u8 1, .int .u8 0, .int .u8 0, .int .u8 0, .int .u8 0, .int .u8 0, .int .u8 0, .int .u8 0, .int .u8 1, .int .u8 0, .int .u8 0, .int .u8 0, .int .u8 0, .int .u8 0, .int .u8 0, .int .u8 0, .int .u8 3, .int .u8 0, .int .u8 0, .int .u8 0, .int .u8 0, .int .u8 0, .int .u8 0, .int .u8 0] 5)))
  have h3 := bytes_block (bs := [3, 0, 0, 0, 0, 0, 0, 0, 1, 0, 0, 0, 0, 0, 0, 0, 1, 0, 0, 0, 0, 0, 0, 0, 3, 0, 0, 0, 0, 0, 0, 0]) (heap_alloc_new w2 (.cells #[.int .u8 3, .int .u8 0, .int .u8 0, .int .u8 0, .int .u8 0, .int .u8 0, .int .u8 0, .int .u8 0, .int .u8 1, .int .u8 0, .int .u8 0, .int .u8 0, .int .u8 0, .int .u8 0, .int .u8 0, .int .u8 0, .int .u8 1, .int .u8 0, .int .u8 0, .int .u8 0, .int .u8 0, .int .u8 0, .int .u8 0, .int .u8 0, .int .u8 3, .int .u8 0, .int .u8 0, .int .u8 0, .int .u8 0, .int .u8 0, .int .u8 0, .int .u8 0] 5)) rfl (by decide)
  refine (ex_same _ _ _ ((unhide HK3).byt (.slice a1 32 c1, hbOf ⟨3, 1, 1⟩) (List.mem_cons_of_mem _ (List.mem_cons_self ..))) h3).mono ?_
  clear h3 HK2
  generalize w2.alloc _ = w3 at *
  rintro e w4 ⟨rfl, hw4⟩
  subst hw4
  go_wp2_with fail
  refine (ex_pick1 (unhide HO) _ _ _ ((unhide HK3).byt (.slice a2 32 c2, hbOf ⟨2, 0, 0⟩) (List.mem_cons_self ..)) ((unhide HK3).byt (.slice a1 32 c1, hbOf ⟨3, 1, 1⟩) (List.mem_cons_of_mem _ (List.mem_cons_self ..)))).mono ?_
  rintro e w5 ⟨rfl, hb5⟩
  have HK5 := hide (((unhide HK3).later hb5).newC #[.int .u64 3, .int .u64 1, .int .u8 1])
  clear hb5 HK3
  obtain ⟨B5, hB5⟩ : ∃ B5, B5 = w5.heap.size := ⟨_, rfl⟩
  rw [← hB5] at HK5
  have HB5 := hide hB5
  clear hB5
  go_wp2_with fail
  rw [← unhide HB5]
  clear HB5
  generalize w5.alloc _ = w6 at *
  refine (ex_pick2 (unhide HO) _ _ ((unhide HK5).byt (.slice a1 32 c1, hbOf ⟨3, 1, 1⟩) (List.mem_cons_of_mem _ (List.mem_cons_self ..)))).mono ?_
  rintro e w7 ⟨rfl, hb7⟩
  have HK7 := hide (((unhide HK5).later hb7).later ((Below.refl _ w7).alloc (Nat.le_refl _) (.cells #[.int .u64 0, .int .u64 0, .int .u8 0] 24)))
  clear hb7 HK5
  go_wp2_with fail
  generalize w7.alloc _ = w8 at *
  refine (ex_new (unhide HK7)).mono ?_
  rintro e w9 ⟨p, rfl, hk9⟩
  have HK9 := hide hk9
  clear hk9 HK7
  go_wp2_with fail
  refine (ex_load0 (unhide HO) (unhide HK9)).mono ?_
  rintro e w10 ⟨rfl, hk10⟩
  have HK10 := hide (hk10.later ((Below.refl _ w10).alloc (Nat.le_refl _) (.cells #[.int .u64 0, .int .u64 0, .int .u8 0] 24)))
  clear hk10 HK9
  go_wp2_with fail
  generalize w10.alloc _ = w11 at *
  refine (ex_save (unhide HO) (unhide HK10)).mono ?_
  rintro e w12 ⟨rfl, A, hA, hk12⟩
  have HA := hide hA
  have HK12 := hide (hk12.newC #[.int .u64 1, .int .u64 0, .int .u8 0])
  clear hk12 HK10 hA
  obtain ⟨B12, hB12⟩ : ∃ B12, B12 = w12.heap.size := ⟨_, rfl⟩
  rw [← hB12] at HK12
  have HB12 := hide hB12
  clear hB12
  go_wp2_with fail
  rw [← unhide HB12]
  clear HB12
  generalize w12.alloc _ = w13 at *
  refine (ex_load1 (unhide HO) (unhide HA) (unhide HK12)).mono ?_
  rintro e w14 ⟨rfl, hk14⟩
  have HK14 := hide (hk14.newC #[.int .u64 1, .int .u64 0, .int .u8 0])
  clear hk14 HK12
  obtain ⟨B14, hB14⟩ : ∃ B14, B14 = w14.heap.size := ⟨_, rfl⟩
  rw [← hB14] at HK14
  have HB14 := hide hB14
  clear hB14
  obtain ⟨x0, x1, x2⟩ := (unhide HK14).kh.three (g := B14) (List.mem_cons_self ..)
  obtain ⟨y0, y1, y2⟩ := (unhide HK14).kh.three (g := B12) (List.mem_cons_of_mem _ (List.mem_cons_self ..))
  obtain ⟨z0, z1, z2⟩ := (unhide HK14).kh.three (g := B5) (List.mem_cons_of_mem _ (List.mem_cons_of_mem _ (List.mem_cons_self ..)))
  go_upto_region 11 with fail
  rw [← unhide HB14]
  clear HB14
  generalize w14.alloc _ = w15 at *
  go_wp2_with fail
  go_ret
  exact ⟨rfl, (unhide HK14).kh.bb⟩
end Go.Proofs.Ytoabpjdpdcpdlaa
