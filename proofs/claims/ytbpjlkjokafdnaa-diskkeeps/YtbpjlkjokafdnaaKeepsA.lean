/- DiskKeeps: the disk with the two rows beside it, and what each call leaves of that. No statement of the seat is proved here. -/
import Derived.Test.YtbpjlkjokafdnaaEnv
namespace Go.Proofs.Ytbpjlkjokafdnaa
open Go.RowKit

/-- An owned row stands where its block is left alone. -/
theorem own_kept {W W' : World} {e : TypeId} {v : Value} {n : Nat} {xs : List Value} (h : W.ownsRow 0 e 1 v n xs) (hk : ∀ k, v.ownBlock = some k → W'.heap[k]? = W.heap[k]?) : W'.ownsRow 0 e 1 v n xs := by
  refine ⟨h.1, ?_⟩
  rcases h.2 with hn | ⟨g, cap, cur, hv, hb0, hg, rest⟩
  · exact .inl hn
  · refine .inr ⟨g, cap, cur, hv, hb0, ?_, rest⟩
    rw [hk g (by rw [hv]; rfl)]; exact hg

/-- Beside the disk at p: at p + 1 the slices U 0, U 1, at p + 2 the slices U 2, U 3, which own their rows X, each apart. All below p is as in w. -/
structure KRel (w : World) (p : Nat) (A : AD) (U : Nat → Value) (X : Nat → List UInt8) (W : World) : Prop where
  ex : ∃ D v, DiskIs W p D v A ∧ (∀ k, D k → p ≤ k) ∧ ¬ D (p + 1) ∧ ¬ D (p + 2) ∧ ∀ i k, i < 4 → (U i).ownBlock = some k → ¬ D k
  below : Below p w W
  ca : W.heap[p + 1]? = some (.cells #[U 0, U 1] 46 (0, 0))
  cs : W.heap[p + 2]? = some (.cells #[U 2, U 3] 46 (0, 0))
  own : ∀ i, i < 4 → W.ownsRow 0 5 1 (U i) (X i).length ((X i).map bv)
  apart : ∀ i j, i < 4 → j < 4 → i ≠ j → ∀ k, (U i).ownBlock = some k → (U j).ownBlock ≠ some k
  far : ∀ i k, i < 4 → (U i).ownBlock = some k → p + 2 < k

theorem lt_of_heap {W : World} {k : Nat} {o : Obj} (h : W.heap[k]? = some o) : k < W.heap.size := by
  rcases Nat.lt_or_ge k W.heap.size with h1 | h1
  · exact h1
  · rw [Array.getElem?_eq_none h1] at h; cases h

section
variable {w W W' : World} {p : Nat} {A A' : AD} {U : Nat → Value} {X : Nat → List UInt8}

theorem KRel.lt (h : KRel w p A U X W) (i k : Nat) (hi : i < 4) (hk : (U i).ownBlock = some k) : k < W.heap.size := ((h.own i hi).lt k hk).2

/-- Whatever leaves the blocks that are there alone. -/
theorem KRel.later (h : KRel w p A U X W) (hb : Below W.heap.size W W') : KRel w p A U X W' := by
  obtain ⟨D, v, hD, h1, h2, h3, h4⟩ := h.ex
  have hpl := hD.lt p hD.own
  exact ⟨⟨D, v, hD.kept hb.size fun k hk => hb.block k (hD.lt k hk), h1, h2, h3, h4⟩, h.below.trans (hb.mono (Nat.le_of_lt hpl)), by rw [hb.block _ (lt_of_heap h.ca)]; exact h.ca, by rw [hb.block _ (lt_of_heap h.cs)]; exact h.cs,
    fun i hi => own_kept (h.own i hi) fun k hk => hb.block k (h.lt i k hi hk), h.apart, h.far⟩

theorem KRel.disk (h : KRel w p A U X W) : ∃ D v, DiskIs W p D v A ∧ (∀ k, D k → p ≤ k) ∧ ∀ A' W', Now D p A' W W' → KRel w p A' U X W' := by
  obtain ⟨D, v, hD, h1, h2, h3, h4⟩ := h.ex
  refine ⟨D, v, hD, h1, fun A' W' hN => ?_⟩
  obtain ⟨D', v', hD', hS⟩ := hN
  have hpl := hD.lt p hD.own
  have hal := lt_of_heap h.ca
  have hsl := lt_of_heap h.cs
  refine ⟨⟨D', v', hD', fun k hk => ?_, hS.notOwn hal h2, hS.notOwn hsl h3, fun i k hi hk => hS.notOwn (h.lt i k hi hk) (h4 i k hi hk)⟩, h.below.trans (hS.below (Nat.le_of_lt hpl) h1), by rw [hS.block _ hal h2]; exact h.ca, by rw [hS.block _ hsl h3]; exact h.cs,
    fun i hi => own_kept (h.own i hi) fun k hk => hS.block k (h.lt i k hi hk) (h4 i k hi hk), h.apart, h.far⟩
  rcases hS.own k hk with e | e
  · exact h1 k e
  · omega

theorem KRel.okA (h : KRel w p A U X W) : A.Ok := by
  obtain ⟨D, v, hD, _⟩ := h.ex
  exact hD.ok

theorem KRel.bytes (h : KRel w p A U X W) (i : Nat) (hi : i < 4) : Bytes W (U i) (X i) := bytes_of_owns (h.own i hi)

theorem KRel.cellA (h : KRel w p A U X W) (i : Nat) (hi : i < 2) : W.cell? ⟨p + 1, i, none⟩ = some (U i) := by
  rw [cell_of_row _ _ _ _ _ _ h.ca]
  rcases (show i = 0 ∨ i = 1 by omega) with rfl | rfl <;> rfl
theorem KRel.cellS (h : KRel w p A U X W) (i : Nat) (hi : i < 2) : W.cell? ⟨p + 2, i, none⟩ = some (U (2 + i)) := by
  rw [cell_of_row _ _ _ _ _ _ h.cs]
  rcases (show i = 0 ∨ i = 1 by omega) with rfl | rfl <;> rfl
theorem KRel.frzA (h : KRel w p A U X W) (i : Nat) : W.frozen? ⟨p + 1, i, none⟩ = false := frozen_of_row _ _ _ _ _ h.ca
theorem KRel.frzS (h : KRel w p A U X W) (i : Nat) : W.frozen? ⟨p + 2, i, none⟩ = false := frozen_of_row _ _ _ _ _ h.cs

/-- Another slice at place i, over a row that is there: behind an append onto it, or a row made anew. -/
theorem KRel.put (h : KRel w p A U X W) (i : Nat) (hi : i < 4) (hg : W.grownBy W' (U i).ownBlock) (v' : Value) (xs : List UInt8) (hrow : W'.ownsRow 0 5 1 v' xs.length (xs.map bv)) (hnew : v'.ownBlock = (U i).ownBlock ∨ ∃ k, v'.ownBlock = some k ∧ W.heap.size ≤ k) :
    KRel w p A (upd U i v') (upd X i xs) (W'.setCell ⟨p + 1 + i / 2, i % 2, none⟩ v') := by
  obtain ⟨D, v, hD, h1, h2, h3, h4⟩ := h.ex
  have hpl := hD.lt p hD.own
  have hal := lt_of_heap h.ca
  have hsl := lt_of_heap h.cs
  have hkeep : ∀ k, k < W.heap.size → (U i).ownBlock ≠ some k → W'.heap[k]? = W.heap[k]? := fun k hk hn => hg.block k hk (fun e => hn e.symm)
  have hq : p + 1 + i / 2 = p + 1 ∨ p + 1 + i / 2 = p + 2 := by omega
  have nq : ¬ D (p + 1 + i / 2) := by rcases hq with e | e <;> rw [e] <;> assumption
  have hv : ∀ k, v'.ownBlock = some k → p + 2 < k ∧ ¬ D k ∧ ∀ j, j < 4 → j ≠ i → (U j).ownBlock ≠ some k := fun k hk => by
    rcases hnew with e | ⟨k', e, hle⟩
    · rw [e] at hk
      exact ⟨h.far i k hi hk, h4 i k hi hk, fun j hj hji => h.apart i j hi hj (fun e => hji e.symm) k hk⟩
    · rw [e] at hk
      cases hk
      exact ⟨by omega, fun hd => by have := hD.lt k hd; omega, fun j hj _ e => by have := h.lt j k hj e; omega⟩
  have hset : ∀ k, k ≠ p + 1 + i / 2 → (W'.setCell ⟨p + 1 + i / 2, i % 2, none⟩ v').heap[k]? = W'.heap[k]? := fun k hk => Below.heap_setCell _ _ _ _ hk
  have hDk : ∀ k, D k → (U i).ownBlock ≠ some k := fun k hk e => h4 i k hi e hk
  have ha' : W'.heap[p + 1]? = some (.cells #[U 0, U 1] 46 (0, 0)) := by
    rw [hkeep _ hal (fun e => by have := h.far i _ hi e; omega)]; exact h.ca
  have hs' : W'.heap[p + 2]? = some (.cells #[U 2, U 3] 46 (0, 0)) := by
    rw [hkeep _ hsl (fun e => by have := h.far i _ hi e; omega)]; exact h.cs
  have hbel : Below p w W' := h.below.grown hg (by omega) (fun k hk => by have := h.far i k hi hk; omega)
  refine ⟨⟨D, v, (hD.kept hg.size fun k hk => hkeep k (hD.lt k hk) (hDk k hk)).setOther (a := ⟨p + 1 + i / 2, i % 2, none⟩) nq _, h1, h2, h3, fun j k hj hk => ?_⟩, hbel.setCell (p := ⟨p + 1 + i / 2, i % 2, none⟩) (by show p ≤ p + 1 + i / 2; omega) _, ?_, ?_, fun j hj => ?_, fun j l hj hl hjl k hk hk2 => ?_, fun j k hj hk => ?_⟩
  · by_cases e : j = i
    · subst e; rw [upd_same] at hk; exact (hv k hk).2.1
    · rw [upd_other _ _ e] at hk; exact h4 j k hj hk
  · rcases (show i = 0 ∨ i = 1 ∨ (2 ≤ i ∧ i < 4) by omega) with rfl | rfl | ⟨e1, e2⟩
    · rw [heap_setCell_same _ _ _ _ _ _ ha']; rfl
    · rw [heap_setCell_same _ _ _ _ _ _ ha']; rfl
    · rw [hset _ (by omega), ha', upd_other _ _ (by omega), upd_other _ _ (by omega)]
  · rcases (show i = 2 ∨ i = 3 ∨ i < 2 by omega) with rfl | rfl | e1
    · rw [show p + 1 + 2 / 2 = p + 2 by omega, heap_setCell_same _ _ _ _ _ _ hs']; rfl
    · rw [show p + 1 + 3 / 2 = p + 2 by omega, heap_setCell_same _ _ _ _ _ _ hs']; rfl
    · rw [hset _ (by omega), hs', upd_other _ _ (by omega), upd_other _ _ (by omega)]
  · by_cases e : j = i
    · subst e
      rw [upd_same, upd_same]
      exact own_kept hrow fun k hk => hset k (by have := (hv k hk).1; omega)
    · rw [upd_other _ _ e, upd_other _ _ e]
      refine own_kept (h.own j hj) fun k hk => ?_
      rw [hset k (by have := h.far j k hj hk; omega)]
      exact hkeep k (h.lt j k hj hk) (h.apart j i hj hi e k hk)
  · by_cases e : j = i
    · subst e
      rw [upd_same] at hk
      rw [upd_other _ _ (fun e => hjl e.symm)] at hk2
      exact (hv k hk).2.2 l hl (fun e => hjl e.symm) hk2
    · rw [upd_other _ _ e] at hk
      by_cases e2 : l = i
      · subst e2
        rw [upd_same] at hk2
        exact (hv k hk2).2.2 j hj e hk
      · rw [upd_other _ _ e2] at hk2
        exact h.apart j l hj hl hjl k hk hk2
  · by_cases e : j = i
    · subst e; rw [upd_same] at hk; exact (hv k hk).1
    · rw [upd_other _ _ e] at hk; exact h.far j k hj hk

theorem KRel.putA (h : KRel w p A U X W) (i : Nat) (hi : i < 2) (hg : W.grownBy W' (U i).ownBlock) (v' : Value) (xs : List UInt8) (hrow : W'.ownsRow 0 5 1 v' xs.length (xs.map bv)) (hnew : v'.ownBlock = (U i).ownBlock ∨ ∃ k, v'.ownBlock = some k ∧ W.heap.size ≤ k) :
    KRel w p A (upd U i v') (upd X i xs) (W'.setCell ⟨p + 1, i, none⟩ v') := by
  have := h.put i (by omega) hg v' xs hrow hnew
  rwa [show p + 1 + i / 2 = p + 1 by omega, show i % 2 = i by omega] at this

theorem KRel.putS (h : KRel w p A U X W) (i : Nat) (hi : i < 2) (hb : Below W.heap.size W W') (v' : Value) (xs : List UInt8) (hrow : W'.ownsRow 0 5 1 v' xs.length (xs.map bv)) (hnew : ∃ k, v'.ownBlock = some k ∧ W.heap.size ≤ k) :
    KRel w p A (upd U (2 + i) v') (upd X (2 + i) xs) (W'.setCell ⟨p + 2, i, none⟩ v') := by
  have := h.put (2 + i) (by omega) ⟨hb.os, hb.tape, hb.output, hb.size, fun k hk _ => hb.block k hk⟩ v' xs hrow (.inr hnew)
  rwa [show p + 1 + (2 + i) / 2 = p + 2 by omega, show (2 + i) % 2 = i by omega] at this

theorem kAppend (h : KRel w p A U X W) (hw : w.heap.size = p) (hd : A.dead = false) (hc : A.calls ≠ 0) (i : Nat) (hi : i < 2) (u : Value) (bs : List UInt8) (hu : Bytes w u bs) (hroom : ((A.x 0).length : Int) + (A.x 1).length + bs.length ≤ A.cap) :
    Calls Try.prog 21 #[.pointer (some ⟨p, 0, none⟩), .int .i64 i, u] W fun e w' => e = .returned (.int .i64 0) ∧ KRel w p { A.tick with x := upd A.x i (A.x i ++ bs) } U X w' := by
  obtain ⟨D, v, hD, hp, hK⟩ := h.disk
  refine (append_ok hD hd hc i hi u bs (hu.kept fun k _ hk => h.below.block k (by omega)) (fun hb k hk hd => ?_) hroom).mono fun _ _ ⟨he, hN⟩ => ⟨he, hK _ _ hN⟩
  have := hu.lt hb k hk
  have := hp k hd
  omega

theorem kSync (h : KRel w p A U X W) (hd : A.dead = false) (hc : A.calls ≠ 0) (i : Nat) (hi : i < 2) : Calls Try.prog 22 #[.pointer (some ⟨p, 0, none⟩), .int .i64 i] W fun e w' => e = .returned (.int .i64 0) ∧ KRel w p (A.tick.synced i) U X w' := by
  obtain ⟨D, v, hD, hp, hK⟩ := h.disk
  exact (sync_ok hD hd hc i hi).mono fun _ _ ⟨he, hN⟩ => ⟨he, hK _ _ hN⟩

theorem kCrash (h : KRel w p A U X W) (a b c d : Int) : Calls Try.prog 23 #[.pointer (some ⟨p, 0, none⟩), .agg #[.int .i64 a, .int .i64 b, .int .i64 c, .int .i64 d]] W fun e w' => e = .returned (.tuple #[]) ∧ KRel w p (A.crashed (kp a b c d)) U X w' := by
  obtain ⟨D, v, hD, hp, hK⟩ := h.disk
  exact (crash4 hD a b c d).mono fun _ _ ⟨he, hN⟩ => ⟨he, hK _ _ hN⟩

theorem kRead (h : KRel w p A U X W) (hd : A.dead = false) (i : Nat) (hi : i < 2) : Calls Try.prog 16 #[.pointer (some ⟨p, 0, none⟩), .int .i64 i] W fun e w' => ∃ r, e = .returned r ∧ Bytes w' r (A.x i) ∧ KRel w p A U X w' ∧ Below W.heap.size W w' := by
  obtain ⟨D, v, hD, hp, hK⟩ := h.disk
  exact (read_ok hD hd i hi).mono fun _ _ ⟨r, he, hF⟩ => ⟨r, he, hF.1, h.later hF.2.2, hF.2.2⟩
theorem kRead0 (h : KRel w p A U X W) (hd : A.dead = false) : Calls Try.prog 16 #[.pointer (some ⟨p, 0, none⟩), .int .i64 0] W fun e w' => ∃ r, e = .returned r ∧ Bytes w' r (A.x 0) ∧ KRel w p A U X w' ∧ Below W.heap.size W w' := kRead h hd 0 (by omega)
theorem kRead1 (h : KRel w p A U X W) (hd : A.dead = false) : Calls Try.prog 16 #[.pointer (some ⟨p, 0, none⟩), .int .i64 1] W fun e w' => ∃ r, e = .returned r ∧ Bytes w' r (A.x 1) ∧ KRel w p A U X w' ∧ Below W.heap.size W w' := kRead h hd 1 (by omega)

theorem kFree (h : KRel w p A U X W) (hd : A.dead = false) : Calls Try.prog 13 #[.pointer (some ⟨p, 0, none⟩)] W fun e w' => e = .returned (.int .i64 (A.cap - (A.x 0).length - (A.x 1).length)) ∧ w' = W := by
  obtain ⟨D, v, hD, hp, hK⟩ := h.disk
  exact free_alive hD hd
end

set_option maxHeartbeats 1000000 in
theorem begins_any (u1 u2 : Value) (b1 b2 : List UInt8) (w : World) (h1 : Bytes w u1 b1) (h2 : Bytes w u2 b2) : Calls Try.prog 24 #[u1, u2] w fun e w' => e = .returned (.bool (decide (b1 = b2.take (min b1.length b2.length)))) ∧ w' = w := by
  obtain ⟨a1, c1, e1, l1⟩ := h1.form
  obtain ⟨a2, c2, e2, l2⟩ := h2.form
  have H1 := hide h1
  have H2 := hide h2
  clear h1 h2
  subst e1 e2
  obtain ⟨n1, hn1⟩ : ∃ n1, n1 = b1.length := ⟨_, rfl⟩
  obtain ⟨n2, hn2⟩ : ∃ n2, n2 = b2.length := ⟨_, rfl⟩
  rw [← hn1] at H1 ⊢
  rw [← hn2] at H2 ⊢
  rw [← hn2] at l2
  obtain ⟨m, hm, hm2⟩ : ∃ m : Nat, m = min n1 n2 ∧ m ≤ n2 := ⟨_, rfl, by omega⟩
  rw [← hm]
  have HM : Hid (min (n1 : Int) (n2 : Int) = (m : Int)) := by show min (n1 : Int) (n2 : Int) = (m : Int); omega
  have HN2 := hide hn2
  clear hm hn1 hn2 l1
  have hb0 : (0 : Int) ≤ (m : Int) := by omega
  have hb1 : (m : Int) ≤ (c2 : Int) := by omega
  go_enter Try.func24, Try.ntmps24
  go_wp2_with (refine wpList_min2 rfl (.tmp 8) (.tmp 10) 3 3 rfl _ _ _ _ rfl rfl ?_; rw [unhide HM])
  refine (same_any _ _ b1 (b2.take m) _ (unhide H1) ((unhide H2).take hm2 (unhide HN2).symm)).mono ?_
  rintro e w' ⟨rfl, rfl⟩
  go_wp2
  go_ret
  exact ⟨rfl, rfl⟩
end Go.Proofs.Ytbpjlkjokafdnaa
