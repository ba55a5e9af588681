/- What a right head package answers, and what is kept along a walk beside a disk. Our own definitions; no statement of the seat is proved here. -/
import Derived.Test.YtoabpjdpdcpdlaaHeadDisk
import Derived.Test.YtoabpjdpdcpdlaaNone
namespace Go.Proofs.Ytoabpjdpdcpdlaa
open Go.RowKit

/-- Save and Load too. -/
structure HeadOk : Prop where
  pure : HeadPure
  save : ∀ (D : Nat → Prop) (p : Nat) (A : AD) (w0 w : World) (s e l : Nat), Now D p A w0 w → (HeadD.mk s e l).fits → Calls Try.prog 21 #[.pointer (some ⟨p, 0, none⟩), .agg #[.int .u64 ((s : Nat) : Int), .int .u64 ((e : Nat) : Int), .int .u8 ((l : Nat) : Int)]] w fun e' w' => e' = .returned (.tuple #[(saveH A ⟨s, e, l⟩).val, .int .i64 (saveE A ⟨s, e, l⟩)]) ∧ Now D p (saveD A ⟨s, e, l⟩) w0 w'
  load : ∀ (D : Nat → Prop) (p : Nat) (A : AD) (w0 w : World), Now D p A w0 w → Calls Try.prog 23 #[.pointer (some ⟨p, 0, none⟩)] w fun e' w' => e' = .returned (.tuple #[(loadH A).val, .int .i64 (loadE A)]) ∧ Now D p A w0 w'
  saveNone : ∀ (q : Value) (w : World) (s e l : Nat), NoDisk w q → (HeadD.mk s e l).fits → (HeadD.mk s e l).next.right = true → Calls Try.prog 21 #[q, .agg #[.int .u64 ((s : Nat) : Int), .int .u64 ((e : Nat) : Int), .int .u8 ((l : Nat) : Int)]] w fun e' w' => e' = .returned (.tuple #[.agg #[.int .u64 0, .int .u64 0, .int .u8 0], .int .i64 1]) ∧ Below w.heap.size w w'
  loadNone : ∀ (q : Value) (w : World), NoDisk w q → Calls Try.prog 23 #[q] w fun e' w' => e' = .returned (.tuple #[.agg #[.int .u64 0, .int .u64 0, .int .u8 0], .int .i64 1]) ∧ Below w.heap.size w w'

/-- What is kept along a walk, beside a disk at p that holds what A tells: rows L and heads M are none of the disk's. -/
structure Kd (w W : World) (L : List (Value × List UInt8)) (M : List (Nat × Array Value)) (p : Nat) (A : AD) : Prop where
  kh : Kh w W L M
  dsk : ∃ D v, DiskIs W p D v A ∧ (∀ k, D k → w.heap.size ≤ k) ∧ (∀ q ∈ M, ¬ D q.1) ∧ ∀ q ∈ L, q.2 ≠ [] → ∀ k, q.1.ownBlock = some k → ¬ D k
section
variable {w W W' : World} {L : List (Value × List UInt8)} {M : List (Nat × Array Value)} {p : Nat} {A : AD}
theorem Kd.start (h : Kh w W L M) (hn : Now (fun k => k = p) p A W' W') (hp : p = W.heap.size) (hb : Below p W W') : Kd w W' L M p A := by
  subst hp
  refine ⟨h.later hb, ?_⟩
  obtain ⟨D', v, h1, h2⟩ := hn
  have hD : ∀ k, D' k → k = W.heap.size ∨ W'.heap.size ≤ k := fun k hk => h2.own k hk
  refine ⟨D', v, h1, fun k hk => ?_, fun q hq hk => ?_, fun q hq hne k hk hd => ?_⟩
  · have := h.bb.size; have := hb.size; rcases hD k hk with e | e <;> omega
  · have := (Array.getElem?_eq_some_iff.1 (h.ce q hq)).1; have := hb.size; rcases hD _ hk with e | e <;> omega
  · have := (h.byt q hq).lt hne k hk; have := hb.size; rcases hD _ hd with e | e <;> omega
theorem Kd.later (h : Kd w W L M p A) (hb : Below W.heap.size W W') : Kd w W' L M p A := by
  obtain ⟨D, v, h1, h2, h3, h4⟩ := h.dsk
  exact ⟨h.kh.later hb, D, v, h1.kept hb.size fun k hk => hb.block k (h1.lt k hk), h2, h3, h4⟩
theorem Kd.newC (h : Kd w W L M p A) (cs : Array Value) : Kd w (W.alloc (.cells cs 24)) L ((W.heap.size, cs) :: M) p A := by
  obtain ⟨D, v, h1, h2, h3, h4⟩ := h.dsk
  refine ⟨h.kh.newC cs, D, v, h1.alloc _, h2, fun q hq => ?_, h4⟩
  rcases List.mem_cons.1 hq with e | e
  · rw [e]; exact fun hd => Nat.lt_irrefl _ (h1.lt _ hd)
  · exact h3 q e
/-- One more, at a block that is not the disk's since it came behind it. -/
theorem Kd.step (h : Kd w W L M p A) : ∃ D, Now D p A W W ∧ ∀ A' W', Now D p A' W W' → Kd w W' L M p A' := by
  obtain ⟨D, v, h1, h2, h3, h4⟩ := h.dsk
  refine ⟨D, Now.start h1, fun A' W' hn => ?_⟩
  have hb : Below w.heap.size W W' := hn.toBelow h.kh.bb.size h2
  have hkeep : ∀ k, k < W.heap.size → ¬ D k → W'.heap[k]? = W.heap[k]? := fun k hk hd => by
    obtain ⟨_, _, _, s⟩ := hn
    exact s.block k hk hd
  have hlt : ∀ q ∈ M, q.1 < W.heap.size := fun q hq => (Array.getElem?_eq_some_iff.1 (h.kh.ce q hq)).1
  refine ⟨⟨h.kh.bb.trans hb, fun q hq => hn.bytes (h.kh.byt q hq) (h4 q hq), fun q hq => (hkeep _ (hlt q hq) (h3 q hq)).trans (h.kh.ce q hq)⟩, ?_⟩
  obtain ⟨D', v', k1, k2⟩ := hn
  refine ⟨D', v', k1, fun k hk => ?_, fun q hq hd => ?_, fun q hq hne k hk hd => ?_⟩
  · rcases k2.own k hk with e | e
    · exact h2 k e
    · exact Nat.le_trans h.kh.bb.size e
  · rcases k2.own _ hd with e | e
    · exact h3 q hq e
    · exact absurd (hlt q hq) (by omega)
  · rcases k2.own _ hd with e | e
    · exact h4 q hq hne k hk e
    · exact absurd ((h.kh.byt q hq).lt hne k hk) (by omega)
theorem kSave (ho : HeadOk) (h : Kd w W L M p A) (s e l s' e' l' : Nat) (E : Int) (hf : (HeadD.mk s e l).fits) (hE : saveE A ⟨s, e, l⟩ = E) (hH : saveH A ⟨s, e, l⟩ = ⟨s', e', l'⟩) :
    Calls Try.prog 21 #[.pointer (some ⟨p, 0, none⟩), .agg #[.int .u64 ((s : Nat) : Int), .int .u64 ((e : Nat) : Int), .int .u8 ((l : Nat) : Int)]] W fun x W' => x = .returned (.tuple #[.agg #[.int .u64 ((s' : Nat) : Int), .int .u64 ((e' : Nat) : Int), .int .u8 ((l' : Nat) : Int)], .int .i64 E]) ∧ Kd w W' L M p (saveD A ⟨s, e, l⟩) := by
  obtain ⟨D, hn, hs⟩ := h.step
  refine (ho.save D p A W W s e l hn hf).mono fun x W' ⟨hx, hN⟩ => ⟨?_, hs _ _ hN⟩
  rw [hx, hE, hH]; rfl
theorem kLoad (ho : HeadOk) (h : Kd w W L M p A) (s' e' l' : Nat) (E : Int) (hE : loadE A = E) (hH : loadH A = ⟨s', e', l'⟩) :
    Calls Try.prog 23 #[.pointer (some ⟨p, 0, none⟩)] W fun x W' => x = .returned (.tuple #[.agg #[.int .u64 ((s' : Nat) : Int), .int .u64 ((e' : Nat) : Int), .int .u8 ((l' : Nat) : Int)], .int .i64 E]) ∧ Kd w W' L M p A := by
  obtain ⟨D, hn, hs⟩ := h.step
  refine (ho.load D p A W W hn).mono fun x W' ⟨hx, hN⟩ => ⟨?_, hs _ _ hN⟩
  rw [hx, hE, hH]; rfl
theorem kCrash (h : Kd w W L M p A) (a b c d : Int) : Calls Try.prog 27 #[.pointer (some ⟨p, 0, none⟩), .agg #[.int .i64 a, .int .i64 b, .int .i64 c, .int .i64 d]] W fun x W' => x = .returned (.tuple #[]) ∧ Kd w W' L M p (A.crashed (kp a b c d)) := by
  obtain ⟨D, hn, hs⟩ := h.step
  exact (nCrash hn a b c d).mono fun x W' ⟨hx, hN⟩ => ⟨hx, hs _ _ hN⟩
theorem kFuse (h : Kd w W L M p A) (hd : A.dead = false) (c k : Int) (hc : c ≤ 9223372036854775807) : Calls Try.prog 25 #[.pointer (some ⟨p, 0, none⟩), .int .i64 c, .int .i64 k] W fun x W' => x = .returned (.tuple #[]) ∧ Kd w W' L M p (A.fused c k) := by
  obtain ⟨D, hn, hs⟩ := h.step
  exact (nFuse hn hd c k hc).mono fun x W' ⟨hx, hN⟩ => ⟨hx, hs _ _ hN⟩
theorem kNew (h : Kh w W L M) (c : Int) (h0 : 0 ≤ c) (h1 : c ≤ 1048576) : Calls Try.prog 19 #[.int .i64 c] W fun x W' => ∃ p, x = .returned (.tuple #[.pointer (some ⟨p, 0, none⟩), .int .i64 0]) ∧ Kd w W' L M p (AD.new c) :=
  (new_at c h0 h1 W W.heap.size rfl).mono fun _ _ ⟨hx, hN, _, hb⟩ => ⟨_, hx, Kd.start h hN rfl hb⟩
end
end Go.Proofs.Ytoabpjdpdcpdlaa

namespace Go.Proofs.Ytoabpjdpdcpdlaa
open Go.RowKit

theorem bytes_block {W : World} {g : Nat} {t : TypeId} {fr : Nat × Nat} {bs : List UInt8} {cs : Array Value} (h : W.heap[g]? = some (.cells cs t fr)) (hc : cs = (bs.map bv).toArray) (hl : bs.length ≤ 1000) : Bytes W (.slice (some ⟨g, 0, none⟩) bs.length bs.length) bs := by
  refine .inr ⟨⟨g, 0, none⟩, bs.length, rfl, Nat.le_refl _, by unfold maxLen; omega, fun j x hx => ?_⟩
  rw [Addr.add_mid, Nat.zero_add, cell_of_row _ _ _ _ _ _ h, hc]
  simpa using hx

theorem exB3 : hbOf ⟨3, 1, 1⟩ = [3, 0, 0, 0, 0, 0, 0, 0, 1, 0, 0, 0, 0, 0, 0, 0, 1, 0, 0, 0, 0, 0, 0, 0, 3, 0, 0, 0, 0, 0, 0, 0] := by decide +kernel
theorem head_ext {h : HeadD} {s e l : Nat} (a : h.s = s) (b : h.e = e) (c : h.l = l) : h = ⟨s, e, l⟩ := by
  subst a b c; rfl
theorem exPick : pickV (hbOf ⟨2, 0, 0⟩) (hbOf ⟨3, 1, 1⟩) = ⟨3, 1, 1⟩ ∧ (pickH (hbOf ⟨2, 0, 0⟩) (hbOf ⟨3, 1, 1⟩)).isSome = true ∧ pickV (hbOf ⟨3, 1, 1⟩) [] = ⟨0, 0, 0⟩ ∧ (pickH (hbOf ⟨3, 1, 1⟩) []).isSome = false :=
  ⟨head_ext (by decide +kernel) (by decide +kernel) (by decide +kernel), by decide +kernel, head_ext (by decide +kernel) (by decide +kernel) (by decide +kernel), by decide +kernel⟩
theorem ex_same (u v : Value) (w : World) (hu : Bytes w u (hbOf ⟨3, 1, 1⟩)) (hv : Bytes w v [3, 0, 0, 0, 0, 0, 0, 0, 1, 0, 0, 0, 0, 0, 0, 0, 1, 0, 0, 0, 0, 0, 0, 0, 3, 0, 0, 0, 0, 0, 0, 0]) : Calls Try.prog 16 #[u, v] w fun e w' => e = .returned (.bool true) ∧ w' = w :=
  (low_same u v _ _ w hu hv).mono fun x W ⟨hx, hb⟩ => ⟨by rw [hx, exB3]; simp, hb⟩
theorem ex_bytes3 (ho : HeadOk) (w : World) : Calls Try.prog 10 #[.agg #[.int .u64 3, .int .u64 1, .int .u8 1]] w fun e' w' => ∃ a c, e' = .returned (.tuple #[.slice a 32 c, .int .i64 0]) ∧ Bytes w' (.slice a 32 c) (hbOf ⟨3, 1, 1⟩) ∧ Below w.heap.size w w' := by
  refine (ho.pure.bytes 3 1 1 w ⟨by decide, by decide, by decide⟩).mono fun x W ⟨v, hx, hv, hb⟩ => ?_
  obtain ⟨a, c, ev, _⟩ := hv.form
  subst ev
  exact ⟨a, c, hx, hv, hb⟩
theorem ex_bytes2 (ho : HeadOk) (w : World) : Calls Try.prog 10 #[.agg #[.int .u64 2, .int .u64 0, .int .u8 0]] w fun e' w' => ∃ a c, e' = .returned (.tuple #[.slice a 32 c, .int .i64 0]) ∧ Bytes w' (.slice a 32 c) (hbOf ⟨2, 0, 0⟩) ∧ Below w.heap.size w w' := by
  refine (ho.pure.bytes 2 0 0 w ⟨by decide, by decide, by decide⟩).mono fun x W ⟨v, hx, hv, hb⟩ => ?_
  obtain ⟨a, c, ev, _⟩ := hv.form
  subst ev
  exact ⟨a, c, hx, hv, hb⟩
theorem ex_pick1 (ho : HeadOk) (u v : Value) (w : World) (hu : Bytes w u (hbOf ⟨2, 0, 0⟩)) (hv : Bytes w v (hbOf ⟨3, 1, 1⟩)) : Calls Try.prog 14 #[u, v] w fun e' w' => e' = .returned (.tuple #[.agg #[.int .u64 3, .int .u64 1, .int .u8 1], .bool true]) ∧ Below w.heap.size w w' := by
  refine (ho.pure.pick u v _ _ w hu hv).mono fun x W ⟨hx, hb⟩ => ⟨?_, hb⟩
  rw [hx, exPick.1, exPick.2.1]; rfl
theorem ex_pick2 (ho : HeadOk) (u : Value) (w : World) (hu : Bytes w u (hbOf ⟨3, 1, 1⟩)) : Calls Try.prog 14 #[u, .slice none 0 0] w fun e' w' => e' = .returned (.tuple #[.agg #[.int .u64 0, .int .u64 0, .int .u8 0], .bool false]) ∧ Below w.heap.size w w' := by
  refine (ho.pure.pick u (.slice none 0 0) _ [] w hu (.inl ⟨rfl, rfl⟩)).mono fun x W ⟨hx, hb⟩ => ⟨?_, hb⟩
  rw [hx, exPick.2.2.1, exPick.2.2.2]; rfl
section
variable {w W : World} {L : List (Value × List UInt8)} {M : List (Nat × Array Value)} {p : Nat} {A : AD}
theorem ex_new (h : Kh w W L M) : Calls Try.prog 19 #[.int .i64 10] W fun x W' => ∃ p, x = .returned (.tuple #[.pointer (some ⟨p, 0, none⟩), .int .i64 0]) ∧ Kd w W' L M p (AD.new 10) := kNew h 10 (by decide) (by decide)
theorem ex_load0 (ho : HeadOk) (h : Kd w W L M p (AD.new 10)) : Calls Try.prog 23 #[.pointer (some ⟨p, 0, none⟩)] W fun x W' => x = .returned (.tuple #[.agg #[.int .u64 0, .int .u64 0, .int .u8 0], .int .i64 50]) ∧ Kd w W' L M p (AD.new 10) :=
  kLoad ho h 0 0 0 50 ((Slots.new 10).load0 rfl).1 ((Slots.new 10).load0 rfl).2
theorem ex_save (ho : HeadOk) (h : Kd w W L M p (AD.new 10)) : Calls Try.prog 21 #[.pointer (some ⟨p, 0, none⟩), .agg #[.int .u64 0, .int .u64 0, .int .u8 0]] W fun x W' => x = .returned (.tuple #[.agg #[.int .u64 1, .int .u64 0, .int .u8 0], .int .i64 0]) ∧ ∃ A, Slots A ⟨1, 0, 0⟩ ⟨0, 0, 0⟩ ∧ Kd w W' L M p A := by
  obtain ⟨a, b, c⟩ := (Slots.new 10).save (h := ⟨0, 0, 0⟩) rfl ⟨by decide, by decide, by decide⟩ (by decide) (by decide)
  exact (kSave ho h 0 0 0 1 0 0 0 ⟨by decide, by decide, by decide⟩ a b).mono fun x W' ⟨hx, hk⟩ => ⟨hx, _, c, hk⟩
theorem ex_load1 (ho : HeadOk) (hA : Slots A ⟨1, 0, 0⟩ ⟨0, 0, 0⟩) (h : Kd w W L M p A) : Calls Try.prog 23 #[.pointer (some ⟨p, 0, none⟩)] W fun x W' => x = .returned (.tuple #[.agg #[.int .u64 1, .int .u64 0, .int .u8 0], .int .i64 0]) ∧ Kd w W' L M p A :=
  kLoad ho h 1 0 0 0 (hA.load (by decide)).1 (hA.load (by decide)).2
end

set_option maxRecDepth 100000 in
set_option maxHeartbeats 8000000 in
theorem headAwake_of (ho : HeadOk) : HeadAwake := by
  intro w
  have HO := hide ho
  clear ho
  go_enter Try.func9, Try.ntmps9
  go_wp2_with fail
  refine (ex_bytes3 (unhide HO) _).mono ?_
  rintro e w1 ⟨a1, c1, rfl, hv1, hb1⟩
  have HK1 := hide (((Kh.start w).later hb1).addB hv1)
  clear hv1 hb1
  go_wp2_with fail
  refine (ex_bytes2 (unhide HO) _).mono ?_
  rintro e w2 ⟨a2, c2, rfl, hv2, hb2⟩
  have HK2 := hide (((unhide HK1).later hb2).addB hv2)
  clear hv2 hb2 HK1
  go_wp2_with fail
  have HK3 := hide ((unhide HK2).later ((Below.refl _ w2).alloc (Nat.le_refl _) (.cells #[.int .u8 3, .int .u8 0, .int .u8 0, .int .u8 0, .int .u8 0, .int .u8 0, .int .u8 0, .int .u8 0, .int .u8 1, .int .u8 0, .int .u8 0, .int .u8 0, .int .u8 0, .int .u8 0, .int .u8 0, .int .u8 0, .int .u8 1, .int .u8 0, .int .u8 0, .int .u8 0, .int .u8 0, .int .u8 0, .int .u8 0, .int .u8 0, .int .u8 3, .int .u8 0, .int .u8 0, .int .u8 0, .int .u8 0, .int .u8 0, .int .u8 0, .int .u8 0] 5)))
  have h3 := bytes_block (bs := [3, 0, 0, 0, 0, 0, 0, 0, 1, 0, 0, 0, 0, 0, 0, 0, 1, 0, 0, 0, 0, 0, 0, 0, 3, 0, 0, 0, 0, 0, 0, 0]) (heap_alloc_new w2 (.cells #[.int .u8 3, .int .u8 0, .int .u8 0, .int .u8 0, .int .u8 0, .int .u8 0, .int .u8 0, .int .u8 0, .int .u8 1, .int .u8 0, .int .u8 0, .int .u8 0, .int .u8 0, .int .u8 0, .int .u8 0, .int .u8 0, .int .u8 1, .int .u8 0, .int .u8 0, .int .u8 0, .int .u8 0, .int .u8 0, .int .u8 0, .int .u8 0, .int .u8 3, .int .u8 0, .int .u8 0, .int .u8 0, .int .u8 0, .int .u8 0, .int .u8 0, .int .u8 0] 5)) rfl (by decide)
  refine (ex_same _ _ _ ((unhide HK3).byt (.slice a1 32 c1, hbOf ⟨3, 1, 1⟩) (List.mem_cons_of_mem _ (List.mem_cons_self ..))) h3).mono ?_
  clear h3 HK2
  generalize w2.alloc _ = w3 at *
  rintro e w4 ⟨rfl, hw4⟩
  subst hw4
  go_wp2_with fail
  refine (ex_pick1 (unhide HO) _ _ _ ((unhide HK3).byt (.slice a2 32 c2, hbOf ⟨2, 0, 0⟩) (List.mem_cons_self ..)) ((unhide HK3).byt (.slice a1 32 c1, hbOf ⟨3, 1, 1⟩) (List.mem_cons_of_mem _ (List.mem_cons_self ..)))).mono ?_
  rintro e w5 ⟨rfl, hb5⟩
  have HK5 := hide (((unhide HK3).later hb5).newC #[.int .u64 3, .int .u64 1, .int .u8 1])
  clear hb5 HK3
  obtain ⟨B5, hB5⟩ : ∃ B5, B5 = w5.heap.size := ⟨_, rfl⟩
  rw [← hB5] at HK5
  have HB5 := hide hB5
  clear hB5
  go_wp2_with fail
  rw [← unhide HB5]
  clear HB5
  generalize w5.alloc _ = w6 at *
  refine (ex_pick2 (unhide HO) _ _ ((unhide HK5).byt (.slice a1 32 c1, hbOf ⟨3, 1, 1⟩) (List.mem_cons_of_mem _ (List.mem_cons_self ..)))).mono ?_
  rintro e w7 ⟨rfl, hb7⟩
  have HK7 := hide (((unhide HK5).later hb7).later ((Below.refl _ w7).alloc (Nat.le_refl _) (.cells #[.int .u64 0, .int .u64 0, .int .u8 0] 24)))
  clear hb7 HK5
  go_wp2_with fail
  generalize w7.alloc _ = w8 at *
  refine (ex_new (unhide HK7)).mono ?_
  rintro e w9 ⟨p, rfl, hk9⟩
  have HK9 := hide hk9
  clear hk9 HK7
  go_wp2_with fail
  refine (ex_load0 (unhide HO) (unhide HK9)).mono ?_
  rintro e w10 ⟨rfl, hk10⟩
  have HK10 := hide (hk10.later ((Below.refl _ w10).alloc (Nat.le_refl _) (.cells #[.int .u64 0, .int .u64 0, .int .u8 0] 24)))
  clear hk10 HK9
  go_wp2_with fail
  generalize w10.alloc _ = w11 at *
  refine (ex_save (unhide HO) (unhide HK10)).mono ?_
  rintro e w12 ⟨rfl, A, hA, hk12⟩
  have HA := hide hA
  have HK12 := hide (hk12.newC #[.int .u64 1, .int .u64 0, .int .u8 0])
  clear hk12 HK10 hA
  obtain ⟨B12, hB12⟩ : ∃ B12, B12 = w12.heap.size := ⟨_, rfl⟩
  rw [← hB12] at HK12
  have HB12 := hide hB12
  clear hB12
  go_wp2_with fail
  rw [← unhide HB12]
  clear HB12
  generalize w12.alloc _ = w13 at *
  refine (ex_load1 (unhide HO) (unhide HA) (unhide HK12)).mono ?_
  rintro e w14 ⟨rfl, hk14⟩
  have HK14 := hide (hk14.newC #[.int .u64 1, .int .u64 0, .int .u8 0])
  clear hk14 HK12
  obtain ⟨B14, hB14⟩ : ∃ B14, B14 = w14.heap.size := ⟨_, rfl⟩
  rw [← hB14] at HK14
  have HB14 := hide hB14
  clear hB14
  obtain ⟨x0, x1, x2⟩ := (unhide HK14).kh.three (g := B14) (List.mem_cons_self ..)
  obtain ⟨y0, y1, y2⟩ := (unhide HK14).kh.three (g := B12) (List.mem_cons_of_mem _ (List.mem_cons_self ..))
  obtain ⟨z0, z1, z2⟩ := (unhide HK14).kh.three (g := B5) (List.mem_cons_of_mem _ (List.mem_cons_of_mem _ (List.mem_cons_self ..)))
  go_upto_region 11 with fail
  rw [← unhide HB14]
  clear HB14
  generalize w14.alloc _ = w15 at *
  go_wp2_with fail
  go_ret
  exact ⟨rfl, (unhide HK14).kh.bb⟩
end Go.Proofs.Ytoabpjdpdcpdlaa
