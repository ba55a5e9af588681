/- The two disks side by side in memory; an op's bytes. No statement of the seat is proved here. -/
import Derived.Test.YtbpjlkjokafdnaaTwin5
namespace Go.Proofs.Ytbpjlkjokafdnaa
open Go.RowKit

theorem own_keeps {W W' : World} {e : TypeId} {v : Value} {n : Nat} {xs : List Value} (h : W.ownsRow 0 e 1 v n xs) (hk : ∀ k, v.ownBlock = some k → W'.heap[k]? = W.heap[k]?) : W'.ownsRow 0 e 1 v n xs := by
  refine ⟨h.1, ?_⟩
  rcases h.2 with hn | ⟨g, cap, cur, hv, hb0, hg, rest⟩
  · exact .inl hn
  · refine .inr ⟨g, cap, cur, hv, hb0, ?_, rest⟩
    rw [hk g (by rw [hv]; rfl)]; exact hg

set_option maxHeartbeats 1000000 in
theorem bytes_any (wh sg nn k0 k1 k2 k3 : Int) (a : Option Addr) (n c : Nat) (bs : List UInt8) (w : World) (h : Bytes w (.slice a n c) bs) :
    Calls Try.prog 29 #[.agg #[.int .u8 wh, .int .i64 sg, .int .i64 nn, .slice a n c, .int .i64 k0, .int .i64 k1, .int .i64 k2, .int .i64 k3]] w fun e w' => ∃ r, e = .returned r ∧ FreshO w w' r (bs.take 40) := by
  obtain ⟨ti, hi, hz0, hz1, hz2⟩ := infoByte
  obtain ⟨hl, hnc⟩ := bytes_len h
  obtain ⟨m, hm⟩ : ∃ m : Nat, m = min n 40 := ⟨_, rfl⟩
  have HM : Hid (min (n : Int) 40 = (m : Int)) := by show min (n : Int) 40 = (m : Int); omega
  have hb0 : (0 : Int) ≤ (m : Int) := by omega
  have hb1 : (m : Int) ≤ (c : Int) := by omega
  have ht : bs.take 40 = bs.take m := by
    by_cases h40 : n ≤ 40
    · rw [List.take_of_length_le (by omega), List.take_of_length_le (by omega)]
    · rw [show m = 40 by omega]
  rw [ht]
  have hU := h.take (m := m) (by omega) hl
  have hL : (bs.take m).length ≤ 40 := by rw [List.length_take]; omega
  generalize bs.take m = bt at *
  have HO : Hid (((w.alloc (.cells #[.int .u8 wh, .int .i64 sg, .int .i64 nn, .slice a n c, .int .i64 k0, .int .i64 k1, .int .i64 k2, .int .i64 k3] 37)).alloc (.cells #[] 5)).ownsRow 0 5 1 (.slice (some ⟨w.heap.size + 1, 0, none⟩) 0 0) ([] : List UInt8).length (([] : List UInt8).map bv)) :=
    ⟨by simp, .inr ⟨w.heap.size + 1, 0, #[], rfl, Nat.zero_le _, heap_last _ _ _ (by simp), Nat.le_refl _, by decide, rfl, by simp⟩⟩
  have HU := hide ((hU.alloc (.cells #[.int .u8 wh, .int .i64 sg, .int .i64 nn, .slice a n c, .int .i64 k0, .int .i64 k1, .int .i64 k2, .int .i64 k3] 37)).alloc (.cells #[] 5))
  have HL : Hid (([] : List UInt8).length + bt.length ≤ 140737488355328) := by show 0 + _ ≤ _; omega
  clear hm ht h hl hnc hU hL
  go_enter Try.func29, Try.ntmps29
  go_wp2_with (first
    | (refine wpList_min2 rfl (.tmp 8) (.const (.int .i64 40)) 3 3 rfl _ _ _ _ rfl rfl ?_; rw [unhide HM])
    | (at_builtin; refine wpList_append_bytes _ rfl _ _ 28 rfl 5 ti (.int .u8 0) Try.underlying28 hi hz0 hz1 hz2 rfl _ [] rfl (unhide HO) _ bt rfl (unhide HU) (unhide HL) ?_))
  rintro v' w' r1 r2 r3
  have r1 : w'.ownsRow 0 5 1 v' bt.length (bt.map bv) := by simpa using r1
  have hB : Below w.heap.size w w' := (((Below.refl _ w).alloc (Nat.le_refl _) _).alloc (by simp) _).grown r2 (by simp; omega) (fun k hk => by simp [Value.ownBlock] at hk; omega)
  have hF : FreshO w w' v' bt := by
    refine ⟨⟨bytes_of_owns r1, fun k hk => ⟨?_, (r1.lt k hk).2⟩, hB⟩, r1⟩
    rcases r3 with r3 | ⟨k', r3, hle⟩
    · rw [r3] at hk; simp [Value.ownBlock] at hk; omega
    · rw [r3] at hk; cases hk; omega
  have HF := hide hF
  clear r1 r2 r3 hB hF
  go_wp2
  go_ret
  exact ⟨v', rfl, unhide HF⟩

/-- The program's disk at p holds A, the document's at q holds A2 (its cells cs); the blocks of E are neither's. Since w0 only blocks that it had not have turned. -/
def TW (w0 : World) (p q : Nat) (E : Nat → Prop) (cs : Array Value) (A A2 : AD) (W : World) : Prop :=
  ∃ D v, DiskIs W p D v A ∧ (∀ k, D k → w0.heap.size ≤ k) ∧ ¬ D q ∧ w0.heap.size ≤ q ∧ W.heap[q]? = some (.cells cs 33 (0, 0)) ∧
    RefV W (fun b => ¬ D b ∧ b ≠ q ∧ ¬ E b) A2 cs ∧ (∀ b, E b → ¬ D b ∧ b ≠ q ∧ w0.heap.size ≤ b ∧ b < W.heap.size) ∧ Below w0.heap.size w0 W

/-- The blocks of E stay. -/
def ER (E : Nat → Prop) (W W' : World) : Prop := ∀ b, E b → W'.heap[b]? = W.heap[b]?

theorem RefV.mono {w : World} {B B' : Nat → Prop} {A : AD} {cs : Array Value} (h : RefV w B A cs) (hB : ∀ b, b < w.heap.size → B b → B' b) : RefV w B' A cs := by
  obtain ⟨c, P, N, C, bf, n, k, d, x, e, hb, hA⟩ := h
  exact ⟨c, P, N, C, bf, n, k, d, x, e, fun j hj => ⟨(hb j hj).1, fun hn b hbb => hB b ((hb j hj).1.lt hn b hbb) ((hb j hj).2 hn b hbb)⟩, hA⟩

/-- Whatever leaves the blocks of B alone leaves the document's disk. -/
theorem RefV.kept {w w' : World} {B : Nat → Prop} {A : AD} {cs : Array Value} (h : RefV w B A cs) (hk : ∀ b, b < w.heap.size → B b → w'.heap[b]? = w.heap[b]?) : RefV w' B A cs := by
  obtain ⟨c, P, N, C, bf, n, k, d, x, e, hb, hA⟩ := h
  refine ⟨c, P, N, C, bf, n, k, d, x, e, fun j hj => ⟨?_, (hb j hj).2⟩, hA⟩
  by_cases hn : x j = []
  · have h0 := (hb j hj).1
    rw [hn] at h0 ⊢
    rcases h0 with h0 | ⟨a, c, h1, h2, h3, _⟩
    · exact .inl h0
    · exact .inr ⟨a, c, h1, h2, h3, fun j x hx => by simp at hx⟩
  · exact (hb j hj).1.kept fun b hbb hlt => hk b hlt ((hb j hj).2 hn b hbb)

theorem RefV.shape {w : World} {B : Nat → Prop} {A : AD} {cs : Array Value} (h : RefV w B A cs) : cs.size = 13 ∧ cs.all (fun x => x.oneCell') = true := by
  obtain ⟨c, P, N, C, bf, n, k, d, x, rfl, _⟩ := h
  exact ⟨rfl, rl_one ..⟩

section
variable {w0 W W' : World} {p q : Nat} {E : Nat → Prop} {cs cs' : Array Value} {A A2 A' : AD}

theorem TW.ok (h : TW w0 p q E cs A A2 W) : A.Ok := by obtain ⟨D, v, hD, _⟩ := h; exact hD.ok
theorem TW.below (h : TW w0 p q E cs A A2 W) : Below w0.heap.size w0 W := by obtain ⟨D, v, _, _, _, _, _, _, _, h⟩ := h; exact h
theorem TW.row (h : TW w0 p q E cs A A2 W) : W.heap[q]? = some (.cells cs 33 (0, 0)) := by obtain ⟨D, v, _, _, _, _, h, _⟩ := h; exact h
theorem TW.lt (h : TW w0 p q E cs A A2 W) : ∀ b, E b → b < W.heap.size := by obtain ⟨D, v, _, _, _, _, _, _, h, _⟩ := h; exact fun b hb => (h b hb).2.2.2

/-- More is made; some of it counts to E'. -/
theorem TW.grow (h : TW w0 p q E cs A A2 W) (hb : Below W.heap.size W W') (E' : Nat → Prop) (hE : ∀ b, E' b → E b ∨ (W.heap.size ≤ b ∧ b < W'.heap.size)) : TW w0 p q E' cs A A2 W' := by
  obtain ⟨D, v, hD, h1, h2, h3, h4, h5, h6, h7⟩ := h
  have hq := lt_of_row h4
  have hs := hb.size
  refine ⟨D, v, hD.kept hs fun k hk => hb.block k (hD.lt k hk), h1, h2, h3, row_later h4 hb, (h5.mono ?_).later hb, fun b hbE => ?_, h7.trans (hb.mono h7.size)⟩
  · rintro b hlt ⟨x, y, z⟩
    refine ⟨x, y, fun he => ?_⟩
    rcases hE b he with he | he
    · exact z he
    · omega
  · rcases hE b hbE with he | he
    · obtain ⟨x, y, z, u⟩ := h6 b he; exact ⟨x, y, z, by omega⟩
    · refine ⟨fun hd => ?_, by omega, ?_, he.2⟩
      · have := hD.lt b hd; omega
      · have := h7.size; omega
theorem TW.later (h : TW w0 p q E cs A A2 W) (hb : Below W.heap.size W W') : TW w0 p q E cs A A2 W' := h.grow hb E fun _ h => .inl h
theorem TW.drew (h : TW w0 p q E cs A A2 W) : TW w0 p q E cs A A2 W.drew := h.later (Below.refl _ W).drew
theorem TW.fewer (h : TW w0 p q E cs A A2 W) (E' : Nat → Prop) (hE : ∀ b, E' b → E b) : TW w0 p q E' cs A A2 W := h.grow (Below.refl _ W) E' fun b hb => .inl (hE b hb)
theorem ER.below (h : TW w0 p q E cs A A2 W) (hb : Below W.heap.size W W') : ER E W W' := fun b he => hb.block b (h.lt b he)

/-- Only a block of E turns. -/
theorem TW.scratch (h : TW w0 p q E cs A A2 W) {g : Nat} (hg : E g) (u : Value) (o : Nat) : TW w0 p q E cs A A2 (W.setCell ⟨g, o, none⟩ u) := by
  obtain ⟨D, v, hD, h1, h2, h3, h4, h5, h6, h7⟩ := h
  obtain ⟨x, y, z, l⟩ := h6 g hg
  refine ⟨D, v, hD.setOther (a := ⟨g, o, none⟩) x u, h1, h2, h3, (Below.heap_setCell _ _ _ _ (fun e => y e.symm)).trans h4, h5.kept fun b _ hb => Below.heap_setCell _ _ _ _ (fun e => hb.2.2 (by rw [e]; exact hg)), fun b he => ?_, h7.setCell (p := ⟨g, o, none⟩) z u⟩
  obtain ⟨x, y, z, l⟩ := h6 b he
  exact ⟨x, y, z, by simpa [World.setCell] using l⟩

/-- What the document's disk answered is stored. -/
theorem TW.stored (h : TW w0 p q E cs A A2 W) (hb : Below W.heap.size W W') (D : Nat → Prop) (v : Nat → Value) (hD : DiskIs W p D v A) (h1 : ∀ k, D k → w0.heap.size ≤ k) (h2 : ¬ D q) (h6 : ∀ b, E b → ¬ D b) (hV : RefV W' (fun b => ¬ D b ∧ b ≠ q ∧ ¬ E b) A' cs') : TW w0 p q E cs' A A' (W'.setRow q cs') ∧ ER E W (W'.setRow q cs') := by
  obtain ⟨_, _, _, _, _, h3, h4, _, h6', h7⟩ := h
  have hs := hb.size
  refine ⟨⟨D, v, (hD.kept hs fun k hk => hb.block k (hD.lt k hk)).kept (by simp [World.setRow]) fun k hk => setRow_other _ _ _ _ (fun e => h2 (by rw [← e]; exact hk)), h1, h2, h3, setRow_heap _ _ _ _ _ _ (row_later h4 hb), hV.kept fun b _ hb => setRow_other _ _ _ _ hb.2.1, fun b he => ?_, below_setRow (h7.trans (hb.mono h7.size)) h3 _⟩, fun b he => ?_⟩
  · obtain ⟨x, y, z, l⟩ := h6' b he
    refine ⟨h6 b he, y, z, ?_⟩
    have : (W'.setRow q cs').heap.size = W'.heap.size := by simp [World.setRow]
    omega
  · obtain ⟨x, y, z, l⟩ := h6' b he
    rw [setRow_other _ _ _ _ y]; exact hb.block b l
end
end Go.Proofs.Ytbpjlkjokafdnaa
