/- What a right head package answers, and what is kept along a walk beside a disk. Our own definitions; no statement of the seat is proved here. -/
import Derived.Test.YtoabpjdpdcpdlaaHeadDisk2
import Derived.Test.YtoabpjdpdcpdlaaNone
namespace Go.Proofs.Ytoabpjdpdcpdlaa
open Go.RowKit

/-- Save and Load too. -/
structure HeadOk : Prop where
  pure : HeadPure
  save : ∀ (D : Nat → Prop) (p : Nat) (A : AD) (w0 w : World) (s e l : Nat), Now D p A w0 w → (HeadD.mk s e l).fits → Calls Try.prog 21 #[.pointer (some ⟨p, 0, none⟩), .agg #[.int .u64 ((s : Nat) : Int), .int .u64 ((e : Nat) : Int), .int .u8 ((l : Nat) : Int)]] w fun e' w' => e' = .returned (.tuple #[(saveH A ⟨s, e, l⟩).val, .int .i64 (saveE A ⟨s, e, l⟩)]) ∧ Now D p (saveD A ⟨s, e, l⟩) w0 w'
  load : ∀ (D : Nat → Prop) (p : Nat) (A : AD) (w0 w : World), Now D p A w0 w → Calls Try.prog 23 #[.pointer (some ⟨p, 0, none⟩)] w fun e' w' => e' = .returned (.tuple #[(loadH A).val, .int .i64 (loadE A)]) ∧ Now D p A w0 w'
  saveNone : ∀ (q : Value) (w : World) (s e l : Nat), NoDisk w q → (HeadD.mk s e l).fits → (HeadD.mk s e l).next.right = true → Calls Try.prog 21 #[q, .agg #[.int .u64 ((s : Nat) : Int), .int .u64 ((e : Nat) : Int), .int .u8 ((l : Nat) : Int)]] w fun e' w' => e' = .returned (.tuple #[.agg #[.int .u64 0, .int .u64 0, .int .u8 0], .int .i64 1]) ∧ Below w.heap.size w w'
  loadNone : ∀ (q : Value) (w : World), NoDisk w q → Calls Try.prog 23 #[q] w fun e' w' => e' = .returned (.tuple #[.agg #[.int .u64 0, .int .u64 0, .int .u8 0], .int .i64 1]) ∧ Below w.heap.size w w'

/-- What is kept along a walk, beside a disk at p that holds what A tells: rows L and heads M are none of the disk's. -/
structure Kd (w W : World) (L : List (Value × List UInt8)) (M : List (Nat × Array Value)) (p : Nat) (A : AD) : Prop where
  kh : Kh w W L M
  dsk : ∃ D v, DiskIs W p D v A ∧ (∀ k, D k → w.heap.size ≤ k) ∧ (∀ q ∈ M, ¬ D q.1) ∧ ∀ q ∈ L, q.2 ≠ [] → ∀ k, q.1.ownBlock = some k → ¬ D k
section
variable {w W W' : World} {L : List (Value × List UInt8)} {M : List (Nat × Array Value)} {p : Nat} {A : AD}
theorem Kd.start (h : Kh w W L M) (hn : Now (fun k => k = p) p A W' W') (hp : p = W.heap.size) (hb : Below p W W') : Kd w W' L M p A := by
  subst hp
  refine ⟨h.later hb, ?_⟩
  obtain ⟨D', v, h1, h2⟩ := hn
  have hD : ∀ k, D' k → k = W.heap.size ∨ W'.heap.size ≤ k := fun k hk => h2.own k hk
  refine ⟨D', v, h1, fun k hk => ?_, fun q hq hk => ?_, fun q hq hne k hk hd => ?_⟩
  · have := h.bb.size; have := hb.size; rcases hD k hk with e | e <;> omega
  · have := (Array.getElem?_eq_some_iff.1 (h.ce q hq)).1; have := hb.size; rcases hD _ hk with e | e <;> omega
  · have := (h.byt q hq).lt hne k hk; have := hb.size; rcases hD _ hd with e | e <;> omega
theorem Kd.later (h : Kd w W L M p A) (hb : Below W.heap.size W W') : Kd w W' L M p A := by
  obtain ⟨D, v, h1, h2, h3, h4⟩ := h.dsk
  exact ⟨h.kh.later hb, D, v, h1.kept hb.size fun k hk => hb.block k (h1.lt k hk), h2, h3, h4⟩
theorem Kd.newC (h : Kd w W L M p A) (cs : Array Value) : Kd w (W.alloc (.cells cs 24)) L ((W.heap.size, cs) :: M) p A := by
  obtain ⟨D, v, h1, h2, h3, h4⟩ := h.dsk
  refine ⟨h.kh.newC cs, D, v, h1.alloc _, h2, fun q hq => ?_, h4⟩
  rcases List.mem_cons.1 hq with e | e
  · rw [e]; exact fun hd => Nat.lt_irrefl _ (h1.lt _ hd)
  · exact h3 q e
/-- One more, at a block that is not the disk's since it came behind it. -/
theorem Kd.step (h : Kd w W L M p A) : ∃ D, Now D p A W W ∧ ∀ A' W', Now D p A' W W' → Kd w W' L M p A' := by
  obtain ⟨D, v, h1, h2, h3, h4⟩ := h.dsk
  refine ⟨D, Now.start h1, fun A' W' hn => ?_⟩
  have hb : Below w.heap.size W W' := hn.toBelow h.kh.bb.size h2
  have hkeep : ∀ k, k < W.heap.size → ¬ D k → W'.heap[k]? = W.heap[k]? := fun k hk hd => by
    obtain ⟨_, _, _, s⟩ := hn
    exact s.block k hk hd
  have hlt : ∀ q ∈ M, q.1 < W.heap.size := fun q hq => (Array.getElem?_eq_some_iff.1 (h.kh.ce q hq)).1
  refine ⟨⟨h.kh.bb.trans hb, fun q hq => hn.bytes (h.kh.byt q hq) (h4 q hq), fun q hq => (hkeep _ (hlt q hq) (h3 q hq)).trans (h.kh.ce q hq)⟩, ?_⟩
  obtain ⟨D', v', k1, k2⟩ := hn
  refine ⟨D', v', k1, fun k hk => ?_, fun q hq hd => ?_, fun q hq hne k hk hd => ?_⟩
  · rcases k2.own k hk with e | e
    · exact h2 k e
    · exact Nat.le_trans h.kh.bb.size e
  · rcases k2.own _ hd with e | e
    · exact h3 q hq e
    · exact absurd (hlt q hq) (by omega)
  · rcases k2.own _ hd with e | e
    · exact h4 q hq hne k hk e
    · exact absurd ((h.kh.byt q hq).lt hne k hk) (by omega)
theorem kSave (ho : HeadOk) (h : Kd w W L M p A) (s e l s' e' l' : Nat) (E : Int) (hf : (HeadD.mk s e l).fits) (hE : saveE A ⟨s, e, l⟩ = E) (hH : saveH A ⟨s, e, l⟩ = ⟨s', e', l'⟩) :
    Calls Try.prog 21 #[.pointer (some ⟨p, 0, none⟩), .agg #[.int .u64 ((s : Nat) : Int), .int .u64 ((e : Nat) : Int), .int .u8 ((l : Nat) : Int)]] W fun x W' => x = .returned (.tuple #[.agg #[.int .u64 ((s' : Nat) : Int), .int .u64 ((e' : Nat) : Int), .int .u8 ((l' : Nat) : Int)], .int .i64 E]) ∧ Kd w W' L M p (saveD A ⟨s, e, l⟩) := by
  obtain ⟨D, hn, hs⟩ := h.step
  refine (ho.save D p A W W s e l hn hf).mono fun x W' ⟨hx, hN⟩ => ⟨?_, hs _ _ hN⟩
  rw [hx, hE, hH]; rfl
theorem kLoad (ho : HeadOk) (h : Kd w W L M p A) (s' e' l' : Nat) (E : Int) (hE : loadE A = E) (hH : loadH A = ⟨s', e', l'⟩) :
    Calls Try.prog 23 #[.pointer (some ⟨p, 0, none⟩)] W fun x W' => x = .returned (.tuple #[.agg #[.int .u64 ((s' : Nat) : Int), .int .u64 ((e' : Nat) : Int), .int .u8 ((l' : Nat) : Int)], .int .i64 E]) ∧ Kd w W' L M p A := by
  obtain ⟨D, hn, hs⟩ := h.step
  refine (ho.load D p A W W hn).mono fun x W' ⟨hx, hN⟩ => ⟨?_, hs _ _ hN⟩
  rw [hx, hE, hH]; rfl
theorem kCrash (h : Kd w W L M p A) (a b c d : Int) : Calls Try.prog 27 #[.pointer (some ⟨p, 0, none⟩), .agg #[.int .i64 a, .int .i64 b, .int .i64 c, .int .i64 d]] W fun x W' => x = .returned (.tuple #[]) ∧ Kd w W' L M p (A.crashed (kp a b c d)) := by
  obtain ⟨D, hn, hs⟩ := h.step
  exact (nCrash hn a b c d).mono fun x W' ⟨hx, hN⟩ => ⟨hx, hs _ _ hN⟩
theorem kFuse (h : Kd w W L M p A) (hd : A.dead = false) (c k : Int) (hc : c ≤ 9223372036854775807) : Calls Try.prog 25 #[.pointer (some ⟨p, 0, none⟩), .int .i64 c, .int .i64 k] W fun x W' => x = .returned (.tuple #[]) ∧ Kd w W' L M p (A.fused c k) := by
  obtain ⟨D, hn, hs⟩ := h.step
  exact (nFuse hn hd c k hc).mono fun x W' ⟨hx, hN⟩ => ⟨hx, hs _ _ hN⟩
theorem kNew (h : Kh w W L M) (c : Int) (h0 : 0 ≤ c) (h1 : c ≤ 1048576) : Calls Try.prog 19 #[.int .i64 c] W fun x W' => ∃ p, x = .returned (.tuple #[.pointer (some ⟨p, 0, none⟩), .int .i64 0]) ∧ Kd w W' L M p (AD.new c) :=
  (new_at c h0 h1 W W.heap.size rfl).mono fun _ _ ⟨hx, hN, _, hb⟩ => ⟨_, hx, Kd.start h hN rfl hb⟩
end
end Go.Proofs.Ytoabpjdpdcpdlaa
