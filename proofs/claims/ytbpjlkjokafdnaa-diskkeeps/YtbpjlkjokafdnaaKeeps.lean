/- DiskKeeps: the walk of the statement's function. -/
import Derived.Test.YtbpjlkjokafdnaaKeepsA
import Derived.Deep.DeepCutAuto
namespace Go.Proofs.Ytbpjlkjokafdnaa
open Go.RowKit

theorem krel_start {w w1 : World} {p : Nat} {A : AD} (hN : Now (fun k => k = p) p A w1 w1) (hz : w1.heap.size = p + 1) (hb : Below p w w1) :
    KRel w p A (fun _ => .slice none 0 0) (fun _ => []) ((w1.alloc (.cells #[.slice none 0 0, .slice none 0 0] 46)).alloc (.cells #[.slice none 0 0, .slice none 0 0] 46)) := by
  obtain ⟨D, v, hD, hS⟩ := hN
  have hDp : ∀ k, D k → k = p := fun k hk => by
    rcases hS.own k hk with e | e
    · exact e
    · have := hD.lt k hk; omega
  have hsz : (w1.alloc (.cells #[.slice none 0 0, .slice none 0 0] 46)).heap.size = p + 2 := by simp; omega
  have h1 : (w1.alloc (.cells #[.slice none 0 0, .slice none 0 0] 46)).heap[p + 1]? = some (.cells #[.slice none 0 0, .slice none 0 0] 46 (0, 0)) := by rw [← hz]; exact heap_alloc_new w1 _
  refine ⟨⟨D, v, (hD.alloc _).alloc _, fun k hk => by have := hDp k hk; omega, fun h => by have := hDp _ h; omega, fun h => by have := hDp _ h; omega, fun i k _ hk => (nomatch hk)⟩, (hb.alloc (by omega) _).alloc (by omega) _, ?_, ?_, fun i _ => ⟨rfl, .inl ⟨rfl, rfl⟩⟩, fun i j _ _ _ k hk => (nomatch hk), fun i k _ hk => (nomatch hk)⟩
  · rw [Below.heap_alloc _ _ _ (by omega)]; exact h1
  · rw [← hsz]; exact heap_alloc_new _ _

/-- What the first loop keeps. -/
def KLoop (w : World) (p t : Nat) (W : World) : Prop := ∃ A U X, KRel w p A U X W ∧ A.cap = 16384 ∧ A.dead = false ∧ A.calls = -1 ∧ (A.x 0).length + (A.x 1).length ≤ 40 * t ∧ ∀ i, i < 2 → X i = A.x i ∧ X (2 + i) = (A.x i).take (A.safe i)

theorem sum_upd {x : Nat → List UInt8} {s : Nat} (hs : s < 2) (l : List UInt8) : ((upd x s (x s ++ l)) 0).length + ((upd x s (x s ++ l)) 1).length = (x 0).length + (x 1).length + l.length := by
  rcases (show s = 0 ∨ s = 1 by omega) with rfl | rfl
  · rw [upd_same, upd_other _ _ (by omega), List.length_append]; omega
  · rw [upd_same, upd_other _ _ (by omega), List.length_append]; omega

theorem kloop_plain {w W : World} {p t s : Nat} {A : AD} {U : Nat → Value} {X : Nat → List UInt8} {l : List UInt8} (hs : s < 2) (hA : A.Ok) (hl : l.length ≤ 40) (hcap : A.cap = 16384) (hdead : A.dead = false) (hcalls : A.calls = -1) (hlen : (A.x 0).length + (A.x 1).length ≤ 40 * t) (hX : ∀ i, i < 2 → X i = A.x i ∧ X (2 + i) = (A.x i).take (A.safe i))
    {v' : Value} (h : KRel w p { A.tick with x := upd A.x s (A.x s ++ l) } (upd U s v') (upd X s (X s ++ l)) W) : KLoop w p (t + 1) W := by
  refine ⟨_, _, _, h, hcap, hdead, ?_, ?_, fun i hi => ?_⟩
  · show A.tick.calls = -1
    rw [tick_neg (by omega)]; exact hcalls
  · show ((upd A.x s (A.x s ++ l)) 0).length + ((upd A.x s (A.x s ++ l)) 1).length ≤ _
    rw [sum_upd hs]; omega
  · obtain ⟨h1, h2⟩ := hX i hi
    show upd X s (X s ++ l) i = upd A.x s (A.x s ++ l) i ∧ upd X s (X s ++ l) (2 + i) = (upd A.x s (A.x s ++ l) i).take (A.safe i)
    rw [upd_other X _ (show 2 + i ≠ s by omega)]
    by_cases e : i = s
    · subst e
      rw [upd_same, upd_same, h1, h2, List.take_append_of_le_length (hA.safe i hi)]
      exact ⟨rfl, rfl⟩
    · rw [upd_other _ _ e, upd_other _ _ e]; exact ⟨h1, h2⟩

theorem kloop_sync {w W : World} {p t s : Nat} {A : AD} {U : Nat → Value} {X : Nat → List UInt8} {l : List UInt8} (hs : s < 2) (hl : l.length ≤ 40) (hcap : A.cap = 16384) (hdead : A.dead = false) (hcalls : A.calls = -1) (hlen : (A.x 0).length + (A.x 1).length ≤ 40 * t) (hX : ∀ i, i < 2 → X i = A.x i ∧ X (2 + i) = (A.x i).take (A.safe i))
    {v' u' : Value} (h : KRel w p (({ A.tick with x := upd A.x s (A.x s ++ l) } : AD).tick.synced s) (upd (upd U s v') (2 + s) u') (upd (upd X s (X s ++ l)) (2 + s) (X s ++ l)) W) : KLoop w p (t + 1) W := by
  refine ⟨_, _, _, h, hcap, hdead, ?_, ?_, fun i hi => ?_⟩
  · show (({ A.tick with x := upd A.x s (A.x s ++ l) } : AD).tick).calls = -1
    have e : ({ A.tick with x := upd A.x s (A.x s ++ l) } : AD).calls = -1 := by show A.tick.calls = -1; rw [tick_neg (by omega)]; exact hcalls
    rw [tick_neg (by omega)]; exact e
  · show ((upd A.x s (A.x s ++ l)) 0).length + ((upd A.x s (A.x s ++ l)) 1).length ≤ _
    rw [sum_upd hs]; omega
  · obtain ⟨h1, h2⟩ := hX i hi
    show upd (upd X s (X s ++ l)) (2 + s) (X s ++ l) i = upd A.x s (A.x s ++ l) i ∧ upd (upd X s (X s ++ l)) (2 + s) (X s ++ l) (2 + i) = (upd A.x s (A.x s ++ l) i).take (upd A.safe s (upd A.x s (A.x s ++ l) s).length i)
    rw [upd_other _ _ (show i ≠ 2 + s by omega)]
    by_cases e : i = s
    · subst e
      rw [upd_same, upd_same, upd_same, upd_same, h1]
      exact ⟨rfl, by rw [List.take_of_length_le (Nat.le_refl _)]⟩
    · rw [upd_other _ _ e, upd_other _ _ e, upd_other _ _ e, upd_other _ _ (show 2 + i ≠ 2 + s by omega), upd_other _ _ (show 2 + i ≠ s by omega)]; exact ⟨h1, h2⟩

theorem crashed_x {A : AD} (k : Nat → Int) (i : Nat) (hi : i < 2) : (A.crashed k).x i = (A.x i).take (A.safe i + keepN (k i) ((A.x i).length - A.safe i)) ∧ (A.crashed k).safe i = A.safe i + keepN (k i) ((A.x i).length - A.safe i) := by
  unfold AD.crashed AD.crashSlot AD.crashSeg
  rcases (show i = 0 ∨ i = 1 by omega) with rfl | rfl <;> simp [upd]

theorem run_max_i64 (a b : Int) : ∃ c, c = max a b ∧ ∀ W : World, (Builtin.max_ #[3, 3] 3 #[.int .i64 a, .int .i64 b]).run Try.prog W = .ok (.int .i64 c) W :=
  ⟨_, rfl, fun W => by rw [run_max_int2]; congr 2; split <;> omega⟩
theorem run_min_i64 (a b : Int) : ∃ c, c = min a b ∧ ∀ W : World, (Builtin.min_ #[3, 3] 3 #[.int .i64 a, .int .i64 b]).run Try.prog W = .ok (.int .i64 c) W :=
  ⟨_, rfl, fun W => by rw [run_min_int2]; congr 2; split <;> omega⟩

set_option maxRecDepth 100000 in
set_option maxHeartbeats 4000000 in
theorem diskKeeps_any (la : Option Addr) (n0 c0 : Nat) (hnc : n0 ≤ c0) (ra : Nat → Option Addr) (rc : Nat → Nat) (lb : Nat → List UInt8) (sa : Option Addr) (n1 c1 : Nat) (sb : Nat → Bool) (k0 k1 k2 k3 g0 g1 g2 g3 : Int) (w : World)
    (hl : n0 = 0 ∨ ∃ b o, la = some ⟨b, o, none⟩ ∧ ∀ i, i < n0 → w.cell? ⟨b, o + i, none⟩ = some (.slice (ra i) (lb i).length (rc i)) ∧ Bytes w (.slice (ra i) (lb i).length (rc i)) (lb i))
    (hs : n1 = 0 ∨ ∃ b o, sa = some ⟨b, o, none⟩ ∧ ∀ i, i < n1 → w.cell? ⟨b, o + i, none⟩ = some (.bool (sb i))) :
    Calls Try.prog 4 #[.slice la n0 c0, .slice sa n1 c1, .agg #[.int .i64 k0, .int .i64 k1, .int .i64 k2, .int .i64 k3], .agg #[.int .i64 g0, .int .i64 g1, .int .i64 g2, .int .i64 g3]] w fun e w' => e = .returned (.bool true) ∧ Below w.heap.size w w' := by
  obtain ⟨p, hp⟩ : ∃ p, p = w.heap.size + 1 + 1 := ⟨_, rfl⟩
  obtain ⟨qa, hqa⟩ : ∃ qa, qa = p + 1 := ⟨_, rfl⟩
  obtain ⟨qs, hqs⟩ : ∃ qs, qs = p + 2 := ⟨_, rfl⟩
  have HP := hide hp
  have HQA := hide hqa
  have HQS := hide hqs
  have HL := hide hl
  have HS := hide hs
  clear hp hl hs hqa hqs
  have EM := hide (show min (n0 : Int) 40 = ((min n0 40 : Nat) : Int) by omega)
  have hm0 : min n0 40 ≤ n0 := by omega
  have hm8 : min n0 40 ≤ 40 := by omega
  go_enter Try.func4, Try.ntmps4
  go_wp2_with fail
  refine (new_at 16384 (by omega) (by omega) _ p (by simpa using (unhide HP).symm)).mono ?_
  rintro e w1 ⟨rfl, hN, hz1, hb1⟩
  obtain ⟨wb, hwb⟩ : ∃ wb, wb = (w.alloc (.cells #[.int .i64 k0, .int .i64 k1, .int .i64 k2, .int .i64 k3] 35)).alloc (.cells #[.int .i64 g0, .int .i64 g1, .int .i64 g2, .int .i64 g3] 35) := ⟨_, rfl⟩
  rw [← hwb] at hb1
  have hws : wb.heap.size = p := by rw [hwb]; simpa using (unhide HP).symm
  have hK0 := krel_start hN hz1 hb1
  have K := four_cells w (.int .i64 k0) (.int .i64 k1) (.int .i64 k2) (.int .i64 k3) 35
  have G := four_cells (w.alloc (.cells #[.int .i64 k0, .int .i64 k1, .int .i64 k2, .int .i64 k3] 35)) (.int .i64 g0) (.int .i64 g1) (.int .i64 g2) (.int .i64 g3) 35
  have hkc : ∀ o x, (w.alloc (.cells #[.int .i64 k0, .int .i64 k1, .int .i64 k2, .int .i64 k3] 35)).cell? ⟨w.heap.size, o, none⟩ = some x → wb.cell? ⟨w.heap.size, o, none⟩ = some x := fun o x hx => by
    rw [hwb, ((Below.refl _ _).alloc (Nat.le_refl _) _ : Below _ _ _).cell (p := ⟨w.heap.size, o, none⟩) (by simp)]; exact hx
  have KC : Hid (∀ i, i < 4 → wb.cell? ⟨w.heap.size, i, none⟩ = some (.int .i64 (kp k0 k1 k2 k3 i))) := fun i hi => by
    rcases (show i = 0 ∨ i = 1 ∨ i = 2 ∨ i = 3 by omega) with rfl | rfl | rfl | rfl
    · exact hkc _ _ K.1
    · exact hkc _ _ K.2.1
    · exact hkc _ _ K.2.2.1
    · exact hkc _ _ K.2.2.2
  have GC : Hid (∀ i, i < 4 → wb.cell? ⟨w.heap.size + 1, i, none⟩ = some (.int .i64 (kp g0 g1 g2 g3 i))) := fun i hi => by
    have e : (w.alloc (.cells #[.int .i64 k0, .int .i64 k1, .int .i64 k2, .int .i64 k3] 35)).heap.size = w.heap.size + 1 := by simp
    rw [e, ← hwb] at G
    rcases (show i = 0 ∨ i = 1 ∨ i = 2 ∨ i = 3 by omega) with rfl | rfl | rfl | rfl
    · exact G.1
    · exact G.2.1
    · exact G.2.2.1
    · exact G.2.2.2
  have HWB : Hid (Below w.heap.size w wb) := by
    show Below w.heap.size w wb
    rw [hwb]; exact ((Below.refl _ w).alloc (Nat.le_refl _) _).alloc (by simp) _
  have HWS := hide hws
  have HZ1 := hide hz1
  have HR0 : Hid (KLoop wb p 0 _) := ⟨_, _, _, hK0, rfl, rfl, rfl, Nat.le_refl _, fun i _ => ⟨rfl, rfl⟩⟩
  clear hN hz1 hb1 hK0 K G hkc hws
  clear hwb
  go_wp2_with (refine wpList_min2 rfl (.tmp 29) (.const (.int .i64 40)) 3 3 rfl _ _ _ _ rfl rfl ?_; rw [unhide EM])
  have hx1 : w1.heap.size + 1 = qs := by have := unhide HZ1; have := unhide HQS; omega
  have hx0 : w1.heap.size = qa := by have := unhide HZ1; have := unhide HQA; omega
  rw [hx1, hx0]
  clear hx1 hx0 EM HZ1
  generalize min n0 40 = m at *
  go_loopw [33] (fun i W => ∃ k : Nat, k ≤ m ∧ i = .int .i64 k ∧ KLoop wb p k W) (fun i _ => m - (intOf i).toNat)
  case atStart => exact ⟨0, Nat.zero_le _, rfl, unhide HR0⟩
  case round =>
    obtain ⟨k, hk, rfl, hR⟩ := hrel
    have HR := hide hR
    clear hR HR0
    by_cases hlt : k < m
    · obtain ⟨A, U, X, hK, hcap, hdead, hcalls, hlen, hX⟩ := unhide HR
      obtain ⟨b, o, ha, hcl⟩ : ∃ b o, la = some ⟨b, o, none⟩ ∧ ∀ i, i < n0 → w.cell? ⟨b, o + i, none⟩ = some (.slice (ra i) (lb i).length (rc i)) ∧ Bytes w (.slice (ra i) (lb i).length (rc i)) (lb i) := by
        rcases unhide HL with h | h
        · omega
        · exact h
      obtain ⟨hc1, hc2⟩ := hcl k (by omega)
      have hwp : w.heap.size ≤ p := by have := unhide HP; omega
      have hc3 : wr.cell? ⟨b, o + k, none⟩ = some (.slice (ra k) (lb k).length (rc k)) := by
        have h1 := World.block_lt_of_cell? w _ hc1
        have h2 : wb.cell? ⟨b, o + k, none⟩ = some (.slice (ra k) (lb k).length (rc k)) := by rw [(unhide HWB).cell (p := ⟨b, o + k, none⟩) h1]; exact hc1
        rw [hK.below.cell (p := ⟨b, o + k, none⟩) (Nat.lt_of_lt_of_le h1 hwp)]; exact h2
      have hBy : Bytes wb (.slice (ra k) (lb k).length (rc k)) (lb k) := hc2.kept fun k' _ hk' => (unhide HWB).block k' hk'
      obtain ⟨_, _, hf1, hf2⟩ := hBy.form
      have hcc : (lb k).length ≤ rc k := by
        simp only [Value.slice.injEq] at hf1
        omega
      clear hcl hc1 hc2 hf1 hf2
      subst ha
      generalize lb k = bs at *
      generalize ra k = ba at *
      generalize rc k = bc at *
      obtain ⟨n, hn⟩ : ∃ n, n = bs.length := ⟨_, rfl⟩
      rw [← hn] at hBy hcc hc3
      obtain ⟨s, hs, hs2⟩ : ∃ s : Nat, s = n % 2 ∧ s < 2 := ⟨_, rfl, by omega⟩
      obtain ⟨t, ht, ht2, ht3⟩ : ∃ t : Nat, t = min n 40 ∧ t ≤ n ∧ t ≤ 40 := ⟨_, rfl, by omega, by omega⟩
      have HSM : Hid ((n : Int) % 2 = (s : Int)) := by show (n : Int) % 2 = (s : Int); omega
      have HTM : Hid (min (n : Int) 40 = (t : Int)) := by show min (n : Int) 40 = (t : Int); omega
      have HBT : Hid (Bytes wb (.slice ba t bc) (bs.take t)) := hBy.take ht2 hn.symm
      have hlt2 : (bs.take t).length ≤ 40 := by rw [List.length_take]; omega
      generalize bs.take t = x at *
      have HK := hide hK
      have HC := hide hcap
      have HD := hide hdead
      have HCA := hide hcalls
      have HLE := hide hlen
      have HX := hide hX
      have hk1 : (k : Int) < (m : Int) := by omega
      have ht0 : (0 : Int) ≤ (t : Int) := by omega
      have htb : (t : Int) ≤ (bc : Int) := by omega
      have hs0 : (0 : Int) ≤ (s : Int) := by omega
      have hs1 : (s : Int) < 2 := by omega
      clear hK hcap hdead hcalls hlen hX hBy hs ht hn HR
      go_wp2_with (refine wpList_min2 rfl (.tmp 43) (.const (.int .i64 40)) 3 3 rfl _ _ _ _ rfl rfl ?_; rw [unhide HTM])
      rw [unhide HSM]
      refine (kAppend (unhide HK) (unhide HWS) (unhide HD) (by rw [unhide HCA]; omega) s hs2 _ x (unhide HBT) (by rw [unhide HC]; have := unhide HLE; omega)).mono ?_
      rintro e W1 ⟨rfl, hK1⟩
      have cA : W1.cell? ⟨qa, s, none⟩ = some (U s) := by rw [unhide HQA]; exact hK1.cellA s hs2
      have HOW := hide (hK1.own s (by omega))
      have HB1 : Hid (Bytes W1 (.slice ba t bc) x) := (unhide HBT).kept fun k' _ hk' => hK1.below.block k' (by have := unhide HWS; omega)
      have HXL : Hid ((X s).length + x.length ≤ 140737488355328) := by
        show (X s).length + x.length ≤ 140737488355328
        have := (unhide HX s hs2).1
        have := unhide HLE
        rw [(unhide HX s hs2).1]
        rcases (show s = 0 ∨ s = 1 by omega) with rfl | rfl <;> omega
      have HK1 := hide hK1
      clear hK1
      obtain ⟨ti, hti, hz0, hz1, hz2⟩ := infoByte
      go_wp2_with (at_builtin; refine wpList_append_bytes _ rfl _ _ 28 rfl 5 ti (.int .u8 0) Try.underlying28 hti hz0 hz1 hz2 rfl _ (X s) rfl (unhide HOW) _ x rfl (unhide HB1) (unhide HXL) ?_)
      rintro v' W2 r1 r2 r3
      rw [← List.length_append, ← List.map_append] at r1
      obtain ⟨va, vc, hv, _⟩ := (bytes_of_owns r1).form
      obtain ⟨vn, hvn⟩ : ∃ vn, vn = (X s ++ x).length := ⟨_, rfl⟩
      have HVN := hide hvn
      rw [← hvn] at hv
      subst hv
      clear hvn
      have hqb : qa < W1.heap.size := by rw [unhide HQA]; exact lt_of_heap (unhide HK1).ca
      have hnq : (U s).ownBlock ≠ some qa := fun e => by have := (unhide HK1).far s _ (by omega) e; have := unhide HQA; omega
      have hbk : W2.heap[qa]? = W1.heap[qa]? := r2.block qa hqb (fun e => hnq e.symm)
      have cA2 : W2.cell? ⟨qa, s, none⟩ = some (U s) := by rw [World.cell?_of_block (a := ⟨qa, s, none⟩) hbk]; exact cA
      have fA2 : W2.frozen? ⟨qa, s, none⟩ = false := by rw [World.frozen?_of_block (a := ⟨qa, s, none⟩) hbk, unhide HQA]; exact (unhide HK1).frzA s
      have hK2 := (unhide HK1).putA s hs2 r2 (.slice va vn vc) (X s ++ x) r1 r3
      rw [← unhide HQA] at hK2
      obtain ⟨W3, hW3⟩ : ∃ W3, W3 = W2.setCell ⟨qa, s, none⟩ (.slice va vn vc) := ⟨_, rfl⟩
      rw [← hW3] at hK2
      have HK3 := hide hK2
      have HW3 := hide hW3
      clear hqb hnq hbk hK2 hW3 r1 r2 r3 cA HK1 HOW HB1 HXL hti hz0 hz1 hz2 HBT HSM HTM ht0 htb hc3
      go_upto_region 13 with fail
      rw [← unhide HW3]
      clear HW3 cA2 fA2
      have hcs : ∀ i, i < n1 → ∃ b' o', sa = some ⟨b', o', none⟩ ∧ W3.cell? ⟨b', o' + i, none⟩ = some (.bool (sb i)) := fun i hi => by
        rcases unhide HS with h | ⟨b', o', ha', hc'⟩
        · omega
        · refine ⟨b', o', ha', ?_⟩
          have h1 := World.block_lt_of_cell? w _ (hc' i hi)
          have h2 : wb.cell? ⟨b', o' + i, none⟩ = some (.bool (sb i)) := by rw [(unhide HWB).cell (p := ⟨b', o' + i, none⟩) h1]; exact hc' i hi
          rw [(unhide HK3).below.cell (p := ⟨b', o' + i, none⟩) (Nat.lt_of_lt_of_le h1 hwp)]; exact h2
      by_cases hin : k < n1
      · obtain ⟨b', o', ha', hcs1⟩ := hcs k hin
        subst ha'
        clear hcs
        have hin' : (k : Int) < (n1 : Int) := by omega
        cases hsb : sb k
        · rw [hsb] at hcs1
          have HKL : Hid (KLoop wb p (k + 1) W3) := kloop_plain hs2 (unhide HK).okA hlt2 (unhide HC) (unhide HD) (unhide HCA) (unhide HLE) (unhide HX) (unhide HK3)
          obtain ⟨A2, U2, X2, hK, hcap, hdead, hcalls, hlen, hX⟩ := unhide HKL
          have HC2 := hide hcap
          have HD2 := hide hdead
          have HCA2 := hide hcalls
          have HLE2 := hide hlen
          have HX2 := hide hX
          have HK2 : Hid (KRel wb p A2 U2 X2 (W3.drewN 1)) := hK.later ⟨rfl, rfl, rfl, Nat.le_refl _, fun _ _ => rfl⟩
          have cB : W3.cell? ⟨qa, s, none⟩ = some (U2 s) := by rw [unhide HQA]; exact hK.cellA s hs2
          clear hK hcap hdead hcalls hlen hX HKL
          go_wp2_with fail
          go_region_held3 (fun w' => w'.cell? ⟨qa, s, none⟩ = some (U2 s)) (go_keep)
            (first
              | (go_at_call 16; refine (kRead (unhide HK2) (unhide HD2) s hs2).mono ?_; rintro e W9 ⟨r, rfl, hBr, hK9, _⟩; have c9 : W9.cell? ⟨qa, s, none⟩ = some (U2 s) := by (rw [unhide HQA]; exact hK9.cellA s hs2)
                 have HBR := hide hBr; clear HK2 hBr; have HK2 := hide hK9; clear hK9)
              | (go_at_call 18; refine (same_any _ _ (A2.x s) (X2 s) _ (by exact unhide HBR) (by exact (unhide HK2).bytes s (by omega))).mono ?_; rintro e w' ⟨rfl, rfl⟩; rw [decide_eq_true ((unhide HX2 s hs2).1.symm)]))
          have HFIN := hide (show KLoop wb p (k + 1) _ from ⟨A2, U2, X2, unhide HK2, unhide HC2, unhide HD2, unhide HCA2, unhide HLE2, unhide HX2⟩)
          go_wp2_with fail
          exact ⟨⟨k + 1, by omega, by go_num, unhide HFIN⟩, by simp [intOf]; omega⟩
        · rw [hsb] at hcs1
          go_wp2_with fail
          refine (kSync (unhide HK3) (unhide HD) (by show A.tick.calls ≠ 0; rw [tick_neg (by rw [unhide HCA]; omega), unhide HCA]; omega) s hs2).mono ?_
          rintro e W4 ⟨rfl, hK4⟩
          have c4 : W4.cell? ⟨qa, s, none⟩ = some (upd U s (.slice va vn vc) s) := by rw [unhide HQA]; exact hK4.cellA s hs2
          rw [upd_same] at c4
          have c5 : (W4.alloc (.cells #[] 5)).cell? ⟨qa, s, none⟩ = some (.slice va vn vc) := by
            rw [((Below.refl W4.heap.size W4).alloc (Nat.le_refl _) _).cell (p := ⟨qa, s, none⟩) (World.block_lt_of_cell? _ _ c4)]; exact c4
          have HB4 : Hid (Bytes (W4.alloc (.cells #[] 5)) (.slice va vn vc) (X s ++ x)) := by
            have h0 := hK4.bytes s (by omega)
            rw [upd_same, upd_same] at h0
            exact h0.alloc _
          have HO : Hid ((W4.alloc (.cells #[] 5)).ownsRow 0 5 1 (.slice (some ⟨W4.heap.size, 0, none⟩) 0 0) ([] : List UInt8).length (([] : List UInt8).map bv)) :=
            ⟨by simp, .inr ⟨W4.heap.size, 0, #[], rfl, Nat.zero_le _, heap_alloc_new W4 _, Nat.le_refl _, by decide, rfl, by simp⟩⟩
          have HXL : Hid (([] : List UInt8).length + (X s ++ x).length ≤ 140737488355328) := by
            show 0 + (X s ++ x).length ≤ 140737488355328
            have := unhide HLE
            rw [List.length_append, (unhide HX s hs2).1]
            rcases (show s = 0 ∨ s = 1 by omega) with rfl | rfl <;> omega
          have HK4 := hide hK4
          clear hK4 hcs1
          obtain ⟨ti, hti, hz0, hz1, hz2⟩ := infoByte
          go_wp2_with (at_builtin; refine wpList_append_bytes _ rfl _ _ 28 rfl 5 ti (.int .u8 0) Try.underlying28 hti hz0 hz1 hz2 rfl _ [] rfl (unhide HO) _ (X s ++ x) rfl (unhide HB4) (unhide HXL) ?_)
          rintro v5 W5 r1 r2 r3
          rw [← List.length_append, ← List.map_append] at r1
          obtain ⟨va5, vc5, hv, _⟩ := (bytes_of_owns r1).form
          rw [← unhide HVN] at hv
          subst hv
          have hb5 : Below W4.heap.size W4 W5 := ((Below.refl _ _).alloc (Nat.le_refl _) _).grown r2 (by simp) (fun k hk => by simp [Value.ownBlock] at hk; omega)
          have hn5 : ∃ k, (Value.slice va5 vn vc5).ownBlock = some k ∧ W4.heap.size ≤ k := by
            rcases r3 with r3 | ⟨k', r3, hle⟩
            · exact ⟨W4.heap.size, by rw [r3]; rfl, Nat.le_refl _⟩
            · exact ⟨k', r3, by first | omega | (simp at hle; omega)⟩
          have hqb : qs < W4.heap.size := by rw [unhide HQS]; exact lt_of_heap (unhide HK4).cs
          have cS : W5.cell? ⟨qs, s, none⟩ = some (upd U s (.slice va vn vc) (2 + s)) := by
            rw [hb5.cell (p := ⟨qs, s, none⟩) hqb, unhide HQS]; exact (unhide HK4).cellS s hs2
          have fS : W5.frozen? ⟨qs, s, none⟩ = false := by
            rw [World.frozen?_of_block (a := ⟨qs, s, none⟩) (hb5.block qs hqb), unhide HQS]; exact (unhide HK4).frzS s
          have hK5 := (unhide HK4).putS s hs2 hb5 (.slice va5 vn vc5) (X s ++ x) r1 hn5
          rw [← unhide HQS] at hK5
          obtain ⟨W6, hW6⟩ : ∃ W6, W6 = W5.setCell ⟨qs, s, none⟩ (.slice va5 vn vc5) := ⟨_, rfl⟩
          rw [← hW6] at hK5
          have HKL : Hid (KLoop wb p (k + 1) W6) := kloop_sync hs2 hlt2 (unhide HC) (unhide HD) (unhide HCA) (unhide HLE) (unhide HX) hK5
          have HW6 := hide hW6
          clear hK5 hW6 r1 r2 r3 hb5 hn5 hqb c4 c5 HB4 HO HXL HK4 hti hz0 hz1 hz2
          go_upto_region 17 with fail
          rw [← unhide HW6]
          clear HW6 cS fS
          obtain ⟨A2, U2, X2, hK, hcap, hdead, hcalls, hlen, hX⟩ := unhide HKL
          have HC2 := hide hcap
          have HD2 := hide hdead
          have HCA2 := hide hcalls
          have HLE2 := hide hlen
          have HX2 := hide hX
          have HK2 : Hid (KRel wb p A2 U2 X2 (W6.drewN 1)) := hK.later ⟨rfl, rfl, rfl, Nat.le_refl _, fun _ _ => rfl⟩
          have cB : W6.cell? ⟨qa, s, none⟩ = some (U2 s) := by rw [unhide HQA]; exact hK.cellA s hs2
          clear hK hcap hdead hcalls hlen hX HKL
          go_wp2_with fail
          go_region_held3 (fun w' => w'.cell? ⟨qa, s, none⟩ = some (U2 s)) (go_keep)
            (first
              | (go_at_call 16; refine (kRead (unhide HK2) (unhide HD2) s hs2).mono ?_; rintro e W9 ⟨r, rfl, hBr, hK9, _⟩; have c9 : W9.cell? ⟨qa, s, none⟩ = some (U2 s) := by (rw [unhide HQA]; exact hK9.cellA s hs2)
                 have HBR := hide hBr; clear HK2 hBr; have HK2 := hide hK9; clear hK9)
              | (go_at_call 18; refine (same_any _ _ (A2.x s) (X2 s) _ (by exact unhide HBR) (by exact (unhide HK2).bytes s (by omega))).mono ?_; rintro e w' ⟨rfl, rfl⟩; rw [decide_eq_true ((unhide HX2 s hs2).1.symm)]))
          have HFIN := hide (show KLoop wb p (k + 1) _ from ⟨A2, U2, X2, unhide HK2, unhide HC2, unhide HD2, unhide HCA2, unhide HLE2, unhide HX2⟩)
          go_wp2_with fail
          exact ⟨⟨k + 1, by omega, by go_num, unhide HFIN⟩, by simp [intOf]; omega⟩
      · have hin' : ¬ (k : Int) < (n1 : Int) := by omega
        clear hcs
        have HKL : Hid (KLoop wb p (k + 1) W3) := kloop_plain hs2 (unhide HK).okA hlt2 (unhide HC) (unhide HD) (unhide HCA) (unhide HLE) (unhide HX) (unhide HK3)
        obtain ⟨A2, U2, X2, hK, hcap, hdead, hcalls, hlen, hX⟩ := unhide HKL
        have HC2 := hide hcap
        have HD2 := hide hdead
        have HCA2 := hide hcalls
        have HLE2 := hide hlen
        have HX2 := hide hX
        have HK2 : Hid (KRel wb p A2 U2 X2 (W3.drewN 1)) := hK.later ⟨rfl, rfl, rfl, Nat.le_refl _, fun _ _ => rfl⟩
        have cB : W3.cell? ⟨qa, s, none⟩ = some (U2 s) := by rw [unhide HQA]; exact hK.cellA s hs2
        clear hK hcap hdead hcalls hlen hX HKL
        go_wp2_with fail
        go_region_held3 (fun w' => w'.cell? ⟨qa, s, none⟩ = some (U2 s)) (go_keep)
          (first
            | (go_at_call 16; refine (kRead (unhide HK2) (unhide HD2) s hs2).mono ?_; rintro e W9 ⟨r, rfl, hBr, hK9, _⟩; have c9 : W9.cell? ⟨qa, s, none⟩ = some (U2 s) := by (rw [unhide HQA]; exact hK9.cellA s hs2)
               have HBR := hide hBr; clear HK2 hBr; have HK2 := hide hK9; clear hK9)
            | (go_at_call 18; refine (same_any _ _ (A2.x s) (X2 s) _ (by exact unhide HBR) (by exact (unhide HK2).bytes s (by omega))).mono ?_; rintro e w' ⟨rfl, rfl⟩; rw [decide_eq_true ((unhide HX2 s hs2).1.symm)]))
        have HFIN := hide (show KLoop wb p (k + 1) _ from ⟨A2, U2, X2, unhide HK2, unhide HC2, unhide HD2, unhide HCA2, unhide HLE2, unhide HX2⟩)
        go_wp2_with fail
        exact ⟨⟨k + 1, by omega, by go_num, unhide HFIN⟩, by simp [intOf]; omega⟩
    · obtain ⟨A, U, X, hK, hcap, hdead, hcalls, hlen, hX⟩ := unhide HR
      have hwl : w.heap.size < p := by have := unhide HP; omega
      have hwl1 : w.heap.size + 1 < p := by have := unhide HP; omega
      have KCW : Hid (∀ {A' : AD} {W' : World}, KRel wb p A' U X W' → ∀ i, i < 4 → W'.cell? ⟨w.heap.size, i, none⟩ = some (.int .i64 (kp k0 k1 k2 k3 i))) := fun h i hi => by
        rw [h.below.cell (p := ⟨w.heap.size, i, none⟩) hwl]; exact unhide KC i hi
      have GCW : Hid (∀ {A' : AD} {W' : World}, KRel wb p A' U X W' → ∀ i, i < 4 → W'.cell? ⟨w.heap.size + 1, i, none⟩ = some (.int .i64 (kp g0 g1 g2 g3 i))) := fun h i hi => by
        rw [h.below.cell (p := ⟨w.heap.size + 1, i, none⟩) hwl1]; exact unhide GC i hi
      have u0 : wr.cell? ⟨w.heap.size, 0, none⟩ = some (.int .i64 k0) := unhide KCW hK 0 (by omega)
      have u1 : wr.cell? ⟨w.heap.size, 1, none⟩ = some (.int .i64 k1) := unhide KCW hK 1 (by omega)
      have u2 : wr.cell? ⟨w.heap.size, 2, none⟩ = some (.int .i64 k2) := unhide KCW hK 2 (by omega)
      have u3 : wr.cell? ⟨w.heap.size, 3, none⟩ = some (.int .i64 k3) := unhide KCW hK 3 (by omega)
      have HK := hide hK
      have HX := hide hX
      have HOK := hide hK.okA
      have hkm : ¬ (k : Int) < (m : Int) := by omega
      have HLE : Hid ((A.x 0).length + (A.x 1).length ≤ 1600) := by show (A.x 0).length + (A.x 1).length ≤ 1600; omega
      have HC := hide hcap
      clear hK hX hcap hdead hcalls hlen HR KC GC HL HS hwl hwl1
      go_wp2_with fail
      refine (kCrash (unhide HK) k0 k1 k2 k3).mono ?_
      rintro e W1 ⟨rfl, hK1⟩
      clear u0 u1 u2 u3 HK
      have hAx : ∀ i, i < 2 → (A.crashed (kp k0 k1 k2 k3)).x i = (A.x i).take (A.safe i + keepN (kp k0 k1 k2 k3 i) ((A.x i).length - A.safe i)) ∧ (A.crashed (kp k0 k1 k2 k3)).safe i = A.safe i + keepN (kp k0 k1 k2 k3 i) ((A.x i).length - A.safe i) := fun i hi => crashed_x _ i hi
      have hAd : (A.crashed (kp k0 k1 k2 k3)).dead = false ∧ (A.crashed (kp k0 k1 k2 k3)).cap = 16384 := ⟨rfl, unhide HC⟩
      generalize A.crashed (kp k0 k1 k2 k3) = A2 at *
      have HK1 := hide hK1
      have HAX := hide hAx
      have HD2 := hide hAd.1
      have HC2 := hide hAd.2
      clear hK1 hAx hAd
      go_wp2_with fail
      go_loopw [91] (fun i W => ∃ t : Nat, t ≤ 2 ∧ i = .int .i64 t ∧ KRel wb p A2 U X W) (fun i _ => 2 - (intOf i).toNat)
      case atStart => exact ⟨0, Nat.zero_le _, rfl, unhide HK1⟩
      case round =>
        obtain ⟨t, ht, rfl, hK⟩ := hrel
        have HK := hide hK
        clear hK HK1
        by_cases htl : t < 2
        · have ht' : (t : Int) < 2 := by omega
          have ht0 : (0 : Int) ≤ (t : Int) := by omega
          have ht4 : (t : Int) < 4 := by omega
          go_wp2_with fail
          refine (kRead (unhide HK) (unhide HD2) t htl).mono ?_
          rintro e W2 ⟨r, rfl, hBr, hK2, _⟩
          clear HK
          have HK := hide hK2
          obtain ⟨rr, rrc, hr, _⟩ := hBr.form
          have hb1 := hK2.bytes t (by omega)
          have hb2 := hK2.bytes (2 + t) (by omega)
          obtain ⟨aa, ac, ha, _⟩ := hb1.form
          obtain ⟨sa', sc, hsl, _⟩ := hb2.form
          have cA := hK2.cellA t htl
          have cS := hK2.cellS t htl
          have cK := unhide KCW hK2 t (by omega)
          rw [← unhide HQA] at cA
          rw [← unhide HQS] at cS
          obtain ⟨h1, h2⟩ := unhide HX t htl
          obtain ⟨hx1, hx2⟩ := unhide HAX t htl
          have hsf := (unhide HOK).safe t htl
          obtain ⟨kk, hkk⟩ : ∃ kk, kk = kp k0 k1 k2 k3 t := ⟨_, rfl⟩
          rw [← hkk] at cK hx1 hx2
          obtain ⟨xl, hxl⟩ : ∃ xl, xl = (X t).length := ⟨_, rfl⟩
          obtain ⟨sl, hsll⟩ : ∃ sl, sl = (X (2 + t)).length := ⟨_, rfl⟩
          obtain ⟨gl, hgl⟩ : ∃ gl, gl = (A2.x t).length := ⟨_, rfl⟩
          rw [← hxl] at ha
          rw [← hsll] at hsl
          rw [← hgl] at hr
          rw [ha] at cA hb1
          rw [hsl] at cS hb2
          subst hr
          have e1 : xl = (A.x t).length := by rw [hxl, h1]
          have e2 : sl = A.safe t := by rw [hsll, h2, List.length_take]; omega
          have hle := keepN_le kk (xl - sl)
          have e3 : gl = sl + keepN kk (xl - sl) := by rw [hgl, hx1, List.length_take, ← e1, ← e2]; omega
          have hxb : xl ≤ 1600 := by rw [e1]; have := unhide HLE; rcases (show t = 0 ∨ t = 1 by omega) with rfl | rfl <;> omega
          have hsb : sl ≤ xl := by omega
          obtain ⟨mx, hmx, hrx⟩ := run_max_i64 kk 0
          obtain ⟨mn, hmn, hrn⟩ := run_min_i64 mx ((xl : Int) - (sl : Int))
          have hmk : mn = (keepN kk (xl - sl) : Nat) := by
            rw [← keepN_eq, hmn, hmx]; congr 1; omega
          have hw1 : IntKind.i64.wrap ((xl : Int) - (sl : Int)) = (xl : Int) - (sl : Int) := by rw [IntKind.wrap_i64]; omega
          have hw2 : IntKind.i64.wrap ((sl : Int) + mn) = (gl : Int) := by rw [IntKind.wrap_i64]; omega
          have HB1 := hide hb1
          have HB2 := hide hb2
          have HBR := hide hBr
          have HE1 : Hid (X (2 + t) = (A2.x t).take (min (X (2 + t)).length (A2.x t).length)) := by
            show X (2 + t) = (A2.x t).take (min (X (2 + t)).length (A2.x t).length)
            rw [← hsll, ← hgl, hx1, List.take_take, h2]
            congr 1
            omega
          have HE2 : Hid (A2.x t = (X t).take (min (A2.x t).length (X t).length)) := by
            show A2.x t = (X t).take (min (A2.x t).length (X t).length)
            rw [← hxl, ← hgl, hx1, h1, ← e1, ← e2]
            congr 1
            omega
          clear hBr hK2 hb1 hb2 h1 h2 hx1 hx2 hsf hkk hxl hsll hgl ha hsl e1 e2 hle e3 hmx hmn hmk
          go_upto_region 25 with fail
          go_region_held3 (fun w' => w'.cell? ⟨qa, t, none⟩ = some (.slice aa xl ac) ∧ w'.cell? ⟨qs, t, none⟩ = some (.slice sa' sl sc) ∧ w'.cell? ⟨w.heap.size, t, none⟩ = some (.int .i64 kk)) (go_keep) (fail)
          go_wp2_with fail
          refine (begins_any _ _ (X (2 + t)) (A2.x t) _ (by exact (unhide HB2).kept (fun _ _ _ => rfl)) (by exact (unhide HBR).kept (fun _ _ _ => rfl))).mono ?_
          rintro e w' ⟨rfl, rfl⟩
          rw [decide_eq_true (unhide HE1)]
          go_wp2_with fail
          refine (begins_any _ _ (A2.x t) (X t) _ (by exact (unhide HBR).kept (fun _ _ _ => rfl)) (by exact (unhide HB1).kept (fun _ _ _ => rfl))).mono ?_
          rintro e w' ⟨rfl, rfl⟩
          rw [decide_eq_true (unhide HE2)]
          have HFIN := hide (show KRel wb p A2 U X W2.drew from (unhide HK).later ⟨rfl, rfl, rfl, Nat.le_refl _, fun _ _ => rfl⟩)
          go_wp2_with fail
          exact ⟨⟨t + 1, by omega, by go_num, unhide HFIN⟩, by simp [intOf]; omega⟩
        · have ht' : ¬ (t : Int) < 2 := by omega
          obtain ⟨ws, rfl⟩ : ∃ ws, ws = wr := ⟨_, rfl⟩
          obtain ⟨D, v, hD, hDp, _⟩ := (unhide HK).disk
          have HDI := hide hD
          have HDP := hide hDp
          have hsl : ∀ i, i < 2 → A2.safe i = (A2.x i).length ∧ (A2.x i).length ≤ 1600 := fun i hi => by
            obtain ⟨hx1, hx2⟩ := unhide HAX i hi
            have hsf := (unhide HOK).safe i hi
            have hle := keepN_le (kp k0 k1 k2 k3 i) ((A.x i).length - A.safe i)
            rw [hx2, hx1, List.length_take]
            have hxb : (A.x i).length ≤ 1600 := by have := unhide HLE; rcases (show i = 0 ∨ i = 1 by omega) with rfl | rfl <;> omega
            omega
          have hA3 : ∀ i, i < 2 → (A2.crashed (kp g0 g1 g2 g3)).x i = A2.x i := fun i hi => by
            rw [(crashed_x (A := A2) (kp g0 g1 g2 g3) i hi).1]
            exact List.take_of_length_le (by have := (hsl i hi).1; omega)
          have HA3 := hide hA3
          have HSL := hide hsl
          clear hD hDp hA3 hsl
          go_wp2_with fail
          refine (read_ok0 (unhide HDI) (unhide HD2)).mono ?_
          rintro e Wa ⟨r0, rfl, hF0⟩
          have HNO0 := hide (hF0.not (unhide HDI))
          have hDa := hF0.disk (unhide HDI)
          have HDA := hide hDa
          have HF0 := hide hF0
          obtain ⟨ra0, rc0, hr0, _⟩ := hF0.1.form
          subst hr0
          clear hDa hF0
          go_wp2_with fail
          refine (read_ok1 (unhide HDA) (unhide HD2)).mono ?_
          rintro e Wb ⟨r1, rfl, hF1⟩
          have HNO1 := hide (hF1.not (unhide HDA))
          have HN := hide (Now.start (hF1.disk (unhide HDA)))
          have HBY0 := hide ((unhide HF0).1.kept fun k' _ hk' => hF1.2.2.block k' hk')
          have HBY1 := hide hF1.1
          have HBW : Hid (Below p wb Wb) := (unhide HK).below.trans (((unhide HF0).2.2.trans (hF1.2.2.mono (unhide HF0).2.2.size)).mono (Nat.le_of_lt ((unhide HDI).lt p (unhide HDI).own)))
          have hKW := (unhide HK).later ((unhide HF0).2.2.trans (hF1.2.2.mono (unhide HF0).2.2.size))
          obtain ⟨rb0, rd0, hr1, _⟩ := hF1.1.form
          subst hr1
          have u0 : Wb.cell? ⟨w.heap.size + 1, 0, none⟩ = some (.int .i64 g0) := unhide GCW hKW 0 (by omega)
          have u1 : Wb.cell? ⟨w.heap.size + 1, 1, none⟩ = some (.int .i64 g1) := unhide GCW hKW 1 (by omega)
          have u2 : Wb.cell? ⟨w.heap.size + 1, 2, none⟩ = some (.int .i64 g2) := unhide GCW hKW 2 (by omega)
          have u3 : Wb.cell? ⟨w.heap.size + 1, 3, none⟩ = some (.int .i64 g3) := unhide GCW hKW 3 (by omega)
          clear hF1 HF0 HDA hKW
          go_wp2_with fail
          refine (nCrash (unhide HN) g0 g1 g2 g3).mono ?_
          rintro e Wc ⟨rfl, hN⟩
          clear HN u0 u1 u2 u3
          have hx0 := unhide HA3 0 (by omega)
          have hx1 := unhide HA3 1 (by omega)
          have hd3 : (A2.crashed (kp g0 g1 g2 g3)).dead = false := rfl
          have hc3 : (A2.crashed (kp g0 g1 g2 g3)).cap = 16384 := unhide HC2
          generalize A2.crashed (kp g0 g1 g2 g3) = A3 at hN hx0 hx1 hd3 hc3
          have HN := hide hN
          have HX0 := hide hx0
          have HX1 := hide hx1
          have HD3 := hide hd3
          have HC3 := hide hc3
          clear hN hx0 hx1 hd3 hc3 HA3
          have hl0 := (unhide HSL 0 (by omega)).2
          have hl1 := (unhide HSL 1 (by omega)).2
          have hw1 : IntKind.i64.wrap ((16384 : Int) - ((A2.x 0).length : Int)) = (16384 : Int) - ((A2.x 0).length : Int) := by rw [IntKind.wrap_i64]; omega
          have hw2 : IntKind.i64.wrap ((16384 : Int) - ((A2.x 0).length : Int) - ((A2.x 1).length : Int)) = (16384 : Int) - ((A2.x 0).length : Int) - ((A2.x 1).length : Int) := by rw [IntKind.wrap_i64]; omega
          go_wp2_with fail
          refine (nRead0 (unhide HN) (unhide HD3)).mono ?_
          rintro e Wd ⟨r2, rfl, hF, hN⟩
          rw [unhide HX0] at hF
          have HF := hide hF.1
          clear HN hF
          have HN := hide hN
          clear hN
          go_wp2_with fail
          refine (same_any _ _ (A2.x 0) (A2.x 0) _ (by exact unhide HF) (by exact (unhide HN).bytes (unhide HBY0) (fun _ => unhide HNO0))).mono ?_
          rintro e w' ⟨rfl, rfl⟩
          rw [decide_eq_true (rfl : A2.x 0 = A2.x 0)]
          clear HF
          go_wp2_with fail
          refine (nRead1 (unhide HN) (unhide HD3)).mono ?_
          rintro e We ⟨r3, rfl, hF, hN⟩
          rw [unhide HX1] at hF
          have HF := hide hF.1
          clear HN hF
          have HN := hide hN
          clear hN
          go_wp2_with fail
          refine (same_any _ _ (A2.x 1) (A2.x 1) _ (by exact unhide HF) (by exact (unhide HN).bytes (unhide HBY1) (fun _ => unhide HNO1))).mono ?_
          rintro e w' ⟨rfl, rfl⟩
          rw [decide_eq_true (rfl : A2.x 1 = A2.x 1)]
          clear HF
          go_wp2_with fail
          refine (nFree (unhide HN) (unhide HD3)).mono ?_
          rintro e w' ⟨rfl, rfl⟩
          rw [unhide HC3, unhide HX0, unhide HX1]
          go_wp2_with fail
          refine (awake_any _).mono ?_
          rintro e Wf ⟨rfl, hA⟩
          have HA := hide hA
          clear hA
          go_wp2
          go_ret
          have hpw : w.heap.size ≤ p := by have := unhide HP; omega
          have hb1 : Below p wb _ := (unhide HBW).trans ((unhide HN).toBelow (Nat.le_trans (by rw [unhide HWS]; exact Nat.le_refl _) (unhide HBW).size) (unhide HDP))
          refine ⟨rfl, (unhide HWB).trans ((hb1.mono hpw).trans ((unhide HA).mono ?_))⟩
          have h1 := hb1.size
          have h2 := unhide HWS
          omega
end Go.Proofs.Ytbpjlkjokafdnaa
