/- ValImplS2, WireOk, ValKindsM, ValRefH, ValRefI, ValRefJ, ValPoke, ValChange: our own definitions and contracts; no statement of the seat is proved here. -/
import Derived.Test.YtobgmbfoofkdeaaDoorBase08
import Derived.Test.YtobgmbfoofkdeaaDoorBase00
import Derived.Test.YtobgmbfoofkdeaaDoorBase05
import Derived.Test.YtobgmbfoofkdeaaDoorBase01
namespace Go.Proofs.YtobgmbfoofkdeaaDoor
open Go.RowKit

set_option maxRecDepth 100000 in
set_option maxHeartbeats 2000000 in
theorem same1_any (x y : VD) (B B2 : Nat → Prop) (u1 u2 : Value) (g d : Nat) (w : World) (hx : x.At B w u1) (hy : y.At B2 w u2) (hg : w.cell? ⟨g, 0, none⟩ = some (.int .i64 ((d : Nat) : Int))) (hd : d ≤ 100000)
    (hC : ∀ W, Below w.heap.size w W → Calls Tryd.prog 36 #[u1, u2, .int .i64 ((d + 1 : Nat) : Int)] W fun e w' => e = .returned (.bool (x.same y)) ∧ Below W.heap.size W w') :
    Calls Tryd.prog 53 #[u1, u2, .pointer (some ⟨g, 0, none⟩)] w fun e w' => e = .returned (.bool (x.same y)) ∧ Below w.heap.size w w' := by
  obtain ⟨a, c, rfl, -, -⟩ := hx.box
  obtain ⟨a2, c2, rfl, -, -⟩ := hy.box
  obtain ⟨n, hn⟩ : ∃ n, n = x.l.length := ⟨_, rfl⟩
  obtain ⟨K, hK⟩ : ∃ K, K = x.k := ⟨_, rfl⟩
  obtain ⟨N, hN⟩ : ∃ N, N = x.n := ⟨_, rfl⟩
  obtain ⟨z, hz⟩ : ∃ z : ByteArray, z = ⟨x.s.toArray⟩ := ⟨_, rfl⟩
  obtain ⟨n2, hn2⟩ : ∃ n, n = y.l.length := ⟨_, rfl⟩
  obtain ⟨K2, hK2⟩ : ∃ K, K = y.k := ⟨_, rfl⟩
  obtain ⟨N2, hN2⟩ : ∃ N, N = y.n := ⟨_, rfl⟩
  obtain ⟨z2, hz2⟩ : ∃ z : ByteArray, z = ⟨y.s.toArray⟩ := ⟨_, rfl⟩
  rw [← hn, ← hK, ← hN, ← hz, ← hn2, ← hK2, ← hN2, ← hz2] at hC ⊢
  obtain ⟨W1, hW1⟩ : ∃ W1, W1 = (w.alloc (.cells #[.int .u8 ((K : Nat) : Int), .int .i64 N, .string z, .slice a n c] 24)).alloc (.cells #[.int .u8 ((K2 : Nat) : Int), .int .i64 N2, .string z2, .slice a2 n2 c2] 24) := ⟨_, rfl⟩
  have hb0 : Below w.heap.size w (w.alloc (.cells #[.int .u8 ((K : Nat) : Int), .int .i64 N, .string z, .slice a n c] 24)) := (Below.refl _ w).alloc (Nat.le_refl _) _
  have hb1 : Below w.heap.size w W1 := by rw [hW1]; exact hb0.alloc hb0.size _
  have hr1 : W1.heap[w.heap.size]? = some (.cells #[.int .u8 ((K : Nat) : Int), .int .i64 N, .string z, .slice a n c] 24 (0, 0)) := by
    rw [hW1, ((Below.refl _ _).alloc (Nat.le_refl _) _ : Below _ (w.alloc (.cells #[.int .u8 ((K : Nat) : Int), .int .i64 N, .string z, .slice a n c] 24)) _).block _ (by simp)]
    exact heap_alloc_new w _
  have hr2 : W1.heap[w.heap.size + 1]? = some (.cells #[.int .u8 ((K2 : Nat) : Int), .int .i64 N2, .string z2, .slice a2 n2 c2] 24 (0, 0)) := by
    have h := heap_alloc_new (w.alloc (.cells #[.int .u8 ((K : Nat) : Int), .int .i64 N, .string z, .slice a n c] 24)) (.cells #[.int .u8 ((K2 : Nat) : Int), .int .i64 N2, .string z2, .slice a2 n2 c2] 24)
    rw [hW1]
    simpa using h
  obtain ⟨⟨c0, c1, c2', c3⟩, -⟩ := cells4 hr1
  obtain ⟨⟨d0, d1, d2, d3⟩, -⟩ := cells4 hr2
  have g0 := (hb1.cell (World.block_lt_of_cell? _ _ hg)).trans hg
  obtain ⟨D, hD⟩ : ∃ D, D = d + 1 := ⟨_, rfl⟩
  have hDi : ((d : Nat) : Int) + 1 = ((D : Nat) : Int) := by omega
  rw [← hD] at hC
  have HC := hide (hC W1 hb1)
  have HB1 := hide hb1
  have HW1 := hide hW1
  generalize x.same y = p at *
  clear hx hy hn hK hN hz hn2 hK2 hN2 hz2 hb0 hb1 hr1 hr2 hC hD hg hW1
  go_enter Tryd.func53, Tryd.ntmps53
  go_upto_region 1 with fail
  rw [← unhide HW1]
  clear HW1
  go_wp2_with fail
  refine (unhide HC).mono ?_
  rintro e W6 ⟨rfl, hb6⟩
  have HB6 := hide ((unhide HB1).trans (hb6.mono (unhide HB1).size))
  clear hb6 c0 c1 c2' c3 d0 d1 d2 d3 g0
  go_wp2_with fail
  go_ret
  exact ⟨rfl, unhide HB6⟩

set_option maxRecDepth 100000 in
set_option maxHeartbeats 4000000 in
theorem sameAt_any (v : VD) : ∀ (v2 : VD) (B B2 : Nat → Prop) (u u2 : Value) (w : World) (d : Nat), v.At B w u → v2.At B2 w u2 → v.parts ≤ 1000000 → d + v.deep ≤ 60000 → Calls Tryd.prog 36 #[u, u2, .int .i64 ((d : Nat) : Int)] w fun e w' => e = .returned (.bool (v.same v2)) ∧ Below w.heap.size w w' := by
  induction v using VD.induct with
  | h v ih =>
    intro v2 B B2 u u2 w d hA hA2 hm hd
    obtain ⟨a, c, rfl, -, -⟩ := hA.box
    obtain ⟨a2, c2, rfl, -, -⟩ := hA2.box
    have HA := hide hA
    have HA2 := hide hA2
    have HSM := hide (VD.same_mk v v2)
    obtain ⟨K, hK⟩ : ∃ K, K = v.k := ⟨_, rfl⟩
    obtain ⟨N, hNn⟩ : ∃ N, N = v.n := ⟨_, rfl⟩
    obtain ⟨n, hn⟩ : ∃ n, n = v.l.length := ⟨_, rfl⟩
    obtain ⟨K2, hK2⟩ : ∃ K, K = v2.k := ⟨_, rfl⟩
    obtain ⟨N2, hN2⟩ : ∃ N, N = v2.n := ⟨_, rfl⟩
    obtain ⟨n2, hn2⟩ : ∃ n, n = v2.l.length := ⟨_, rfl⟩
    have hn6 : n ≤ 1000000 := by have h1 := VD.partsL_length v.l; have h2 := v.parts_mk; omega
    have hzz : ((⟨v.s.toArray⟩ : ByteArray).toList == (⟨v2.s.toArray⟩ : ByteArray).toList) = decide (v.s = v2.s) := by
      rw [ByteArray.toList_eq, ByteArray.toList_eq, Bool.eq_iff_iff]; simp
    obtain ⟨se, hse⟩ : ∃ se, se = decide (v.s = v2.s) := ⟨_, rfl⟩
    rw [← hse] at HSM hzz
    obtain ⟨z, hz⟩ : ∃ z : ByteArray, z = ⟨v.s.toArray⟩ := ⟨_, rfl⟩
    obtain ⟨z2, hz2⟩ : ∃ z : ByteArray, z = ⟨v2.s.toArray⟩ := ⟨_, rfl⟩
    rw [← hK, ← hK2, ← hNn, ← hN2] at HSM
    rw [← hK, ← hNn, ← hn, ← hz] at HA ⊢
    rw [← hK2, ← hN2, ← hn2, ← hz2] at HA2 ⊢
    rw [← hz, ← hz2] at hzz
    have hzn : (z.toList != z2.toList) = !se := by rw [bne, hzz]
    have HN := hide hn
    have HN2 := hide hn2
    obtain ⟨W1, hW1⟩ : ∃ W1, W1 = ((w.alloc (.cells #[.int .u8 ((K : Nat) : Int), .int .i64 N, .string z, .slice a n c] 24)).alloc (.cells #[.int .u8 ((K2 : Nat) : Int), .int .i64 N2, .string z2, .slice a2 n2 c2] 24)) := ⟨_, rfl⟩
    obtain ⟨W2, hW2⟩ : ∃ W2, W2 = W1.alloc (.cells #[.int .i64 ((d : Nat) : Int)] 3) := ⟨_, rfl⟩
    have hb0 : Below w.heap.size w (w.alloc (.cells #[.int .u8 ((K : Nat) : Int), .int .i64 N, .string z, .slice a n c] 24)) := (Below.refl _ w).alloc (Nat.le_refl _) _
    have hb1 : Below w.heap.size w W1 := by rw [hW1]; exact hb0.alloc hb0.size _
    have hb12 : Below W1.heap.size W1 W2 := by rw [hW2]; exact (Below.refl _ _).alloc (Nat.le_refl _) _
    have hb2 : Below w.heap.size w W2 := hb1.trans (hb12.mono hb1.size)
    have hs1 : W1.heap.size = w.heap.size + 2 := by rw [hW1]; simp
    have hr1 : W1.heap[w.heap.size]? = some (.cells #[.int .u8 ((K : Nat) : Int), .int .i64 N, .string z, .slice a n c] 24 (0, 0)) := by
      rw [hW1, ((Below.refl _ _).alloc (Nat.le_refl _) _ : Below _ (w.alloc (.cells #[.int .u8 ((K : Nat) : Int), .int .i64 N, .string z, .slice a n c] 24)) _).block _ (by simp)]
      exact heap_alloc_new w _
    have hr2 : W1.heap[w.heap.size + 1]? = some (.cells #[.int .u8 ((K2 : Nat) : Int), .int .i64 N2, .string z2, .slice a2 n2 c2] 24 (0, 0)) := by
      have h := heap_alloc_new (w.alloc (.cells #[.int .u8 ((K : Nat) : Int), .int .i64 N, .string z, .slice a n c] 24)) (.cells #[.int .u8 ((K2 : Nat) : Int), .int .i64 N2, .string z2, .slice a2 n2 c2] 24)
      rw [hW1]
      simpa using h
    have hr3 : W2.heap[w.heap.size + 2]? = some (.cells #[.int .i64 ((d : Nat) : Int)] 3 (0, 0)) := by
      have h := heap_alloc_new W1 (.cells #[.int .i64 ((d : Nat) : Int)] 3)
      rw [← hW2, hs1] at h
      exact h
    have kr1 := (hb12.block _ (lt_rowV hr1)).trans hr1
    have kr2 := (hb12.block _ (lt_rowV hr2)).trans hr2
    obtain ⟨⟨c0, c1, c2', c3⟩, -⟩ := cells4 kr1
    obtain ⟨⟨d0, d1, d2, d3⟩, -⟩ := cells4 kr2
    have g0 : W2.cell? ⟨w.heap.size + 2, 0, none⟩ = some (.int .i64 ((d : Nat) : Int)) := cell_of_row _ _ 0 _ _ _ hr3
    have HB2 := hide hb2
    rw [hW1] at hW2
    have HW2 := hide hW2
    have hd6 : d < 65536 := by have := v.deep_pos; omega
    have HEQ : Hid (∀ W, Below W2.heap.size W2 W → Calls Tryd.prog 52 #[.slice a n c, .slice a2 n2 c2, .func (.func 53) #[] #[.pointer (some ⟨w.heap.size + 2, 0, none⟩)]] W fun e w' => e = .returned (.bool (VD.sameL v.l v2.l)) ∧ Below W.heap.size W w') := fun W hW => by
      have hwW : Below w.heap.size w W := hb2.trans (hW.mono hb2.size)
      refine eqFunc_any B B2 (w.heap.size + 2) n n2 c c2 a a2 v.l v2.l W hn hn2 (((unhide HA).later hwW).elems) (((unhide HA2).later hwW).elems) hn6 fun W' hW' j h h2 u1 u2 h1 h3 => ?_
      have hg' : W'.cell? ⟨w.heap.size + 2, 0, none⟩ = some (.int .i64 ((d : Nat) : Int)) := ((hW.trans (hW'.mono hW.size)).cell (World.block_lt_of_cell? _ _ g0)).trans g0
      have hmem : v.l[j] ∈ v.l := List.getElem_mem h
      have h4 := VD.parts_lt hmem
      have h5 := VD.deep_mem hmem
      have h6 := v.deep_mk
      exact same1_any _ _ B B2 u1 u2 _ d W' h1 h3 hg' (by omega) fun W'' hW'' => ih _ hmem _ B B2 u1 u2 W'' (d + 1) (h1.later hW'') (h3.later hW'') (by omega) (by omega)
    have HWA : Hid (∀ W, Calls Tryd.prog 51 #[.agg #[.int .u8 ((K : Nat) : Int), .int .i64 N, .string z, .slice a n c], .int .i64 ((d : Nat) : Int)] W fun e w' => e = .returned (.slice a n c) ∧ Below W.heap.size W w') := fun W => within_any a c K n N z d hd6 W
    have HWB : Hid (∀ W, Calls Tryd.prog 51 #[.agg #[.int .u8 ((K2 : Nat) : Int), .int .i64 N2, .string z2, .slice a2 n2 c2], .int .i64 ((d : Nat) : Int)] W fun e w' => e = .returned (.slice a2 n2 c2) ∧ Below W.heap.size W w') := fun W => within_any a2 c2 K2 n2 N2 z2 d hd6 W
    clear hA hA2 hm hd ih hn hn2 hK hK2 hNn hN2 hz hz2 hse hb0 hb1 hb12 hb2 hs1 hr1 hr2 hr3 kr1 kr2 hW1 hW2 HN HN2 HA HA2
    go_enter Tryd.func36, Tryd.ntmps36
    go_upto_region 1 with fail
    rw [← unhide HW2]
    clear HW2
    by_cases hk : K = K2
    case neg =>
      have gk : (((K : Nat) : Int) == ((K2 : Nat) : Int)) = false := by rw [beq_eq_false_iff_ne]; omega
      have gk2 : (((K : Nat) : Int) != ((K2 : Nat) : Int)) = true := by rw [bne, gk]; rfl
      have gk3 : (K == K2) = false := beq_eq_false_iff_ne.2 hk
      have gk4 : (K != K2) = true := by rw [bne, gk3]; rfl
      have HD : Hid (v.same v2 = false) := by show _ = _; rw [unhide HSM, decide_eq_false hk]; simp
      clear hk
      go_wp2_with fail
      go_ret
      exact ⟨ret_bool (unhide HD).symm, unhide HB2⟩
    have gk : (((K : Nat) : Int) == ((K2 : Nat) : Int)) = true := by rw [beq_iff_eq]; omega
    have gk2 : (((K : Nat) : Int) != ((K2 : Nat) : Int)) = false := by rw [bne, gk]; rfl
    have gk3 : (K == K2) = true := beq_iff_eq.2 hk
    have gk4 : (K != K2) = false := by rw [bne, gk3]; rfl
    have HKK := hide hk
    clear hk
    by_cases hn : N = N2
    case neg =>
      have gn : (N == N2) = false := beq_eq_false_iff_ne.2 hn
      have gn2 : (N != N2) = true := by rw [bne, gn]; rfl
      have HD : Hid (v.same v2 = false) := by show _ = _; rw [unhide HSM, decide_eq_false hn]; simp
      clear hn
      go_wp2_with fail
      go_ret
      exact ⟨ret_bool (unhide HD).symm, unhide HB2⟩
    have gn : (N == N2) = true := beq_iff_eq.2 hn
    have gn2 : (N != N2) = false := by rw [bne, gn]; rfl
    have HNE := hide hn
    clear hn
    cases se with
    | false =>
      have hzn : (z.toList != z2.toList) = true := hzn
      have HD : Hid (v.same v2 = false) := by show _ = _; rw [unhide HSM]; simp
      go_wp2_with fail
      go_ret
      exact ⟨ret_bool (unhide HD).symm, unhide HB2⟩
    | true =>
      have hzn : (z.toList != z2.toList) = false := hzn
      have HSM2 : Hid (v.same v2 = VD.sameL v.l v2.l) := by show _ = _; rw [unhide HSM, decide_eq_true (unhide HKK), decide_eq_true (unhide HNE)]; simp
      generalize VD.sameL v.l v2.l = p at *
      go_upto_region 3 with fail
      clear hzz hzn gk gk2 gk3 gk4 gn gn2 HSM
      have lx0 := Later.cell c0
      have lx1 := Later.cell c1
      have lx2 := Later.cell c2'
      have lx3 := Later.cell c3
      have ly0 := Later.cell d0
      have ly1 := Later.cell d1
      have ly2 := Later.cell d2
      have ly3 := Later.cell d3
      have lg := Later.cell g0
      have hne : Nonempty (Later W2) := ⟨⟨W2, Below.refl _ _⟩⟩
      have hmf : ∀ (fn : Fn) (first cap : Array Value) (w : World), (Instr.makeFunc fn first cap).run Tryd.prog w = .ok (.func fn first cap) w := fun _ _ _ _ => rfl
      clear c0 c1 c2' c3 d0 d1 d2 d3 g0
      refine wp_region_later (by kernel_rfl) ?_
      repeat (go_big_quiet_step ((rename_i q; first
        | (go_at_call_of 51 (Value.slice a n c); refine (unhide HWA _).mono ?_; rintro e w11 ⟨rfl, hb11⟩; exact ⟨rfl, q.then hb11⟩)
        | (go_at_call_of 51 (Value.slice a2 n2 c2); refine (unhide HWB _).mono ?_; rintro e w11 ⟨rfl, hb11⟩; exact ⟨rfl, q.then hb11⟩)
        | (go_at_call 52; refine (unhide HEQ _ q.2).mono ?_; rintro e w11 ⟨rfl, hb11⟩; exact ⟨rfl, q.then hb11⟩))))
      refine wpQuiet_nil ?_
      rintro _ ⟨q, rfl⟩
      have HFIN : Hid (Below W2.heap.size W2 q.1) := q.2
      generalize q.1 = W20 at *
      go_wp2_with fail
      go_ret
      exact ⟨ret_bool (unhide HSM2).symm, (unhide HB2).trans ((unhide HFIN).mono (unhide HB2).size)⟩

set_option maxRecDepth 100000 in
set_option maxHeartbeats 2000000 in
theorem same_any (v v2 : VD) (B B2 : Nat → Prop) (u u2 : Value) (w : World) (hA : v.At B w u) (hA2 : v2.At B2 w u2) (hm : v.parts ≤ 1000000) (hd : v.deep ≤ 1000) : Calls Tryd.prog 15 #[u, u2] w fun e w' => e = .returned (.bool (v.same v2)) ∧ Below w.heap.size w w' := by
  have HS : Hid (∀ W, Below w.heap.size w W → Calls Tryd.prog 36 #[u, u2, .int .i64 1] W fun e w' => e = .returned (.bool (v.same v2)) ∧ Below W.heap.size W w') := fun W hW => sameAt_any v v2 B B2 u u2 W 1 (hA.later hW) (hA2.later hW) hm (by omega)
  obtain ⟨a, c, rfl, -, -⟩ := hA.box
  obtain ⟨a2, c2, rfl, -, -⟩ := hA2.box
  obtain ⟨n, hn⟩ : ∃ n, n = v.l.length := ⟨_, rfl⟩
  obtain ⟨K, hK⟩ : ∃ K, K = v.k := ⟨_, rfl⟩
  obtain ⟨N, hN⟩ : ∃ N, N = v.n := ⟨_, rfl⟩
  obtain ⟨z, hz⟩ : ∃ z : ByteArray, z = ⟨v.s.toArray⟩ := ⟨_, rfl⟩
  obtain ⟨n2, hn2⟩ : ∃ n, n = v2.l.length := ⟨_, rfl⟩
  obtain ⟨K2, hK2⟩ : ∃ K, K = v2.k := ⟨_, rfl⟩
  obtain ⟨N2, hN2⟩ : ∃ N, N = v2.n := ⟨_, rfl⟩
  obtain ⟨z2, hz2⟩ : ∃ z : ByteArray, z = ⟨v2.s.toArray⟩ := ⟨_, rfl⟩
  rw [← hn, ← hK, ← hN, ← hz, ← hn2, ← hK2, ← hN2, ← hz2] at HS ⊢
  obtain ⟨W1, hW1⟩ : ∃ W1, W1 = (w.alloc (.cells #[.int .u8 ((K : Nat) : Int), .int .i64 N, .string z, .slice a n c] 24)).alloc (.cells #[.int .u8 ((K2 : Nat) : Int), .int .i64 N2, .string z2, .slice a2 n2 c2] 24) := ⟨_, rfl⟩
  have hb0 : Below w.heap.size w (w.alloc (.cells #[.int .u8 ((K : Nat) : Int), .int .i64 N, .string z, .slice a n c] 24)) := (Below.refl _ w).alloc (Nat.le_refl _) _
  have hb1 : Below w.heap.size w W1 := by rw [hW1]; exact hb0.alloc hb0.size _
  have hr1 : W1.heap[w.heap.size]? = some (.cells #[.int .u8 ((K : Nat) : Int), .int .i64 N, .string z, .slice a n c] 24 (0, 0)) := by
    rw [hW1, ((Below.refl _ _).alloc (Nat.le_refl _) _ : Below _ (w.alloc (.cells #[.int .u8 ((K : Nat) : Int), .int .i64 N, .string z, .slice a n c] 24)) _).block _ (by simp)]
    exact heap_alloc_new w _
  have hr2 : W1.heap[w.heap.size + 1]? = some (.cells #[.int .u8 ((K2 : Nat) : Int), .int .i64 N2, .string z2, .slice a2 n2 c2] 24 (0, 0)) := by
    have h := heap_alloc_new (w.alloc (.cells #[.int .u8 ((K : Nat) : Int), .int .i64 N, .string z, .slice a n c] 24)) (.cells #[.int .u8 ((K2 : Nat) : Int), .int .i64 N2, .string z2, .slice a2 n2 c2] 24)
    rw [hW1]
    simpa using h
  obtain ⟨⟨c0, c1, c2', c3⟩, -⟩ := cells4 hr1
  obtain ⟨⟨d0, d1, d2, d3⟩, -⟩ := cells4 hr2
  have HC := hide (unhide HS W1 hb1)
  have HB1 := hide hb1
  have HW1 := hide hW1
  generalize v.same v2 = p at *
  clear hA hA2 hm hd hn hK hN hz hn2 hK2 hN2 hz2 hb0 hb1 hr1 hr2 hW1 HS
  go_enter Tryd.func15, Tryd.ntmps15
  go_upto_region 1 with fail
  rw [← unhide HW1]
  clear HW1
  go_wp2_with fail
  refine (unhide HC).mono ?_
  rintro e W6 ⟨rfl, hb6⟩
  have HB6 := hide ((unhide HB1).trans (hb6.mono (unhide HB1).size))
  clear hb6 c0 c1 c2' c3 d0 d1 d2 d3
  go_wp2_with fail
  go_ret
  exact ⟨rfl, unhide HB6⟩
end Go.Proofs.YtobgmbfoofkdeaaDoor

namespace Go.Proofs.YtobgmbfoofkdeaaDoor
open Go.RowKit

/-- What TakeNum tells, in memory. -/
def TookNumM (n : Nat) (bs : List UInt8) (e : Ending) (W : World) : Prop :=
  (∃ (x : Int) (k : Nat) (ra : Option Addr) (rc : Nat), Reads bs x k ∧ Bytes W (.slice ra (n - k) rc) (bs.drop k) ∧ e = .returned (.tuple #[.int .i64 x, .slice ra (n - k) rc, .int .i64 0])) ∨
  (NoNum bs ∧ e = .returned (.tuple #[.int .i64 0, .slice none 0 0, .int .i64 30]))
/-- What TakeText tells, in memory. -/
def TookTextM (n : Nat) (bs : List UInt8) (most : Int) (e : Ending) (W : World) : Prop :=
  (∃ (s : List UInt8) (k : Nat) (ra : Option Addr) (rc : Nat), ReadsT bs most s k ∧ Bytes W (.slice ra (n - k - s.length) rc) (bs.drop (k + s.length)) ∧ e = .returned (.tuple #[.string ⟨s.toArray⟩, .slice ra (n - k - s.length) rc, .int .i64 0])) ∨
  (NoText bs most ∧ e = .returned (.tuple #[.string ⟨#[]⟩, .slice none 0 0, .int .i64 30]))

structure WireOk : Prop where
  size : ∀ n w, InR n → Calls Tryd.prog 66 #[.int .i64 n] w fun e w' => e = .returned (.int .i64 ((numB n).length : Nat)) ∧ Below w.heap.size w w'
  num : ∀ u bs n w, InR n → Bytes w u bs → bs.length ≤ 1048576 → Calls Tryd.prog 47 #[u, .int .i64 n] w fun e w' => ∃ v, e = .returned v ∧ Own w v (bs ++ numB n) w'
  text : ∀ u bs s w, Bytes w u bs → bs.length ≤ 1048576 → s.length ≤ 1048576 → Calls Tryd.prog 48 #[u, .string ⟨s.toArray⟩] w fun e w' => ∃ v, e = .returned v ∧ Own w v (bs ++ textB s) w'
  takeNum : ∀ a n c bs w, Bytes w (.slice a n c) bs → n ≤ 1048576 → Calls Tryd.prog 69 #[.slice a n c] w fun e w' => TookNumM n bs e w' ∧ Below w.heap.size w w'
  takeText : ∀ a n c bs most w, Bytes w (.slice a n c) bs → n ≤ 1048576 → InR most → Calls Tryd.prog 70 #[.slice a n c, .int .i64 most] w fun e w' => TookTextM n bs most e w' ∧ Below w.heap.size w w'

set_option maxHeartbeats 400000 in
theorem wSame_any (u1 u2 : Value) (b1 b2 : List UInt8) (w : World) (h1 : Bytes w u1 b1) (h2 : Bytes w u2 b2) : Calls Tryd.prog 17 #[u1, u2] w fun e w' => e = .returned (.bool (decide (b1 = b2))) ∧ w' = w := by
  have c1 := run_convert_bytes (P := Tryd.prog) w 25 9 5 Tryd.underlying25 Tryd.underlying5 Tryd.underlying9 u1 b1 h1
  have c2 := run_convert_bytes (P := Tryd.prog) w 25 9 5 Tryd.underlying25 Tryd.underlying5 Tryd.underlying9 u2 b2 h2
  have e0 : ((⟨b1.toArray⟩ : ByteArray).toList == (⟨b2.toArray⟩ : ByteArray).toList) = decide (b1 = b2) := by
    rw [ByteArray.toList_eq, ByteArray.toList_eq, Bool.eq_iff_iff]; simp
  have HE : Hid (((⟨b1.toArray⟩ : ByteArray).toList == (⟨b2.toArray⟩ : ByteArray).toList) = decide (b1 = b2)) := e0
  clear e0 h1 h2
  generalize (⟨b1.toArray⟩ : ByteArray) = s1 at *
  generalize (⟨b2.toArray⟩ : ByteArray) = s2 at *
  go_enter Tryd.func17, Tryd.ntmps17
  go_wp2
  go_ret
  exact ⟨ret_bool HE.out, rfl⟩
theorem wSame_true (u1 u2 : Value) (bs : List UInt8) (w : World) (h1 : Bytes w u1 bs) (h2 : Bytes w u2 bs) : Calls Tryd.prog 17 #[u1, u2] w fun e w' => e = .returned (.bool true) ∧ w' = w := by
  refine (wSame_any u1 u2 bs bs w h1 h2).mono ?_
  rintro e w' ⟨rfl, hw⟩
  exact ⟨by rw [decide_eq_true rfl], hw⟩
theorem wSame_false (u1 u2 : Value) (b1 b2 : List UInt8) (w : World) (h1 : Bytes w u1 b1) (h2 : Bytes w u2 b2) (hne : b1 ≠ b2) : Calls Tryd.prog 17 #[u1, u2] w fun e w' => e = .returned (.bool false) ∧ w' = w := by
  refine (wSame_any u1 u2 b1 b2 w h1 h2).mono ?_
  rintro e w' ⟨rfl, hw⟩
  exact ⟨by rw [decide_eq_false hne], hw⟩
end Go.Proofs.YtobgmbfoofkdeaaDoor

namespace Go.Proofs.YtobgmbfoofkdeaaDoor

/-- A value without a list. -/
def kindsPlain (k : Nat) (n : Int) (s : List UInt8) : Bool := (decide (k = 0) && s.isEmpty) || (decide (k = 1) && decide (n = 0) && decide (s.length ≤ 100)) || (decide (k = 2) && decide (n = 0) && s.isEmpty)
theorem kinds_plain (k : Nat) (n : Int) (s : List UInt8) : (VD.mk k n s []).kinds = kindsPlain k n s := by
  match k with
  | 0 => simp [VD.kinds, kindsPlain]
  | 1 => simp [VD.kinds, kindsPlain]
  | 2 => simp [VD.kinds, VD.kindsL, kindsPlain]
  | k + 3 => simp [VD.kinds, kindsPlain]
theorem right_plain (k : Nat) (n : Int) (s : List UInt8) : (VD.mk k n s []).right = kindsPlain k n s := by
  simp [VD.right, kinds_plain, VD.deep, VD.deepL, VD.parts, VD.partsL]
/-- One with a list of a number in it. -/
theorem right_one (k : Nat) (n m : Int) (s : List UInt8) : (VD.mk k n s [.mk 0 m [] []]).right = (decide (k = 2) && kindsPlain k n s) := by
  match k with
  | 0 => simp [VD.right, VD.kinds, kindsPlain]
  | 1 => simp [VD.right, VD.kinds, kindsPlain]
  | 2 => simp [VD.right, VD.kinds, VD.kindsL, kindsPlain, VD.deep, VD.deepL, VD.parts, VD.partsL]
  | k + 3 => simp [VD.right, VD.kinds, kindsPlain]
theorem kinds_two (a b : VD) : (VD.mk 2 0 [] [a, b]).kinds = (a.kinds && b.kinds) := by
  have h : (VD.mk 2 0 [] [a, b]).kinds = (decide ((0 : Int) = 0) && ([] : List UInt8).isEmpty && decide (2 ≤ 40) && (a.kinds && (b.kinds && true))) := rfl
  rw [h, Bool.and_true]
  rfl
/-- A list of one and of a number. -/
theorem right_two (k : Nat) (n m : Int) (s : List UInt8) : (VD.mk 2 0 [] [.mk k n s [], .mk 0 m [] []]).right = kindsPlain k n s := by
  have hd : (VD.mk 2 0 [] [.mk k n s [], .mk 0 m [] []]).deep = 2 := rfl
  have hp : (VD.mk 2 0 [] [.mk k n s [], .mk 0 m [] []]).parts = 3 := rfl
  have hm : (VD.mk 0 m [] []).kinds = true := rfl
  unfold VD.right
  rw [kinds_two, kinds_plain, hd, hp, hm]
  simp
end Go.Proofs.YtobgmbfoofkdeaaDoor

namespace Go.Proofs.YtobgmbfoofkdeaaDoor
open Go.RowKit

/-- What few tells of a value: below a million it is the number of its parts, and it is no deeper than that. -/
def Fewer (v : VD) (d : Nat) (R : Nat) : Prop := R ≤ (d + 1) * 1000000 ∧ (R < 1000000 → v.deep ≤ d ∧ v.parts = R)

set_option maxRecDepth 100000 in
set_option maxHeartbeats 2000000 in
theorem vFew_step (d : Nat) (hd20 : d ≤ 20) (HIH : Hid (∀ d', d = d' + 1 → ∀ (v : VD) (B : Nat → Prop) (u : Value) (w : World), v.At B w u → Calls Tryd.prog 29 #[u, .int .i64 ((d' : Nat) : Int)] w fun e w' => (∃ R : Nat, e = .returned (.int .i64 ((R : Nat) : Int)) ∧ Fewer v d' R) ∧ Below w.heap.size w w')) (v : VD) (B : Nat → Prop) (u : Value) (w : World) (hA : v.At B w u) : Calls Tryd.prog 29 #[u, .int .i64 ((d : Nat) : Int)] w fun e w' => (∃ R : Nat, e = .returned (.int .i64 ((R : Nat) : Int)) ∧ Fewer v d R) ∧ Below w.heap.size w w' := by
  obtain ⟨a, c, rfl, hlc, hbox⟩ := hA.box
  have HBX := hide (hbox 24)
  have HB1 : Hid (Below w.heap.size w (w.alloc (.cells #[.int .u8 ((v.k : Nat) : Int), .int .i64 v.n, .string ⟨v.s.toArray⟩, .slice a v.l.length c] 24))) := (Below.refl _ w).alloc (Nat.le_refl _) _
  clear hA hbox
  obtain ⟨n, hn⟩ : ∃ n, n = v.l.length := ⟨_, rfl⟩
  have HN := hide hn
  have HCM : Hid (n ≤ maxLen) := by rw [hn]; exact Nat.le_trans (unhide HBX).lc (unhide HBX).cm
  rw [← hn] at hlc ⊢ HBX HB1
  clear hn
  generalize (⟨v.s.toArray⟩ : ByteArray) = z at *
  by_cases hd0 : d = 0
  · have hdb : (((d : Nat) : Int) == 0) = true := by rw [hd0]; rfl
    go_enter Tryd.func29, Tryd.ntmps29
    go_wp2
    go_ret
    exact ⟨⟨1000000, rfl, by rw [hd0]; exact Nat.le_refl _, fun h => absurd h (Nat.lt_irrefl _)⟩, unhide HB1⟩
  · have hdb : (((d : Nat) : Int) == 0) = false := by rw [beq_eq_false_iff_ne]; omega
    obtain ⟨d', hd'⟩ : ∃ d', d = d' + 1 := ⟨d - 1, by omega⟩
    have HD := hide hd'
    have hdi : ((d : Nat) : Int) - 1 = ((d' : Nat) : Int) := by omega
    have hdn : d' ≤ 20 := by omega
    clear hd' hd0
    go_enter Tryd.func29, Tryd.ntmps29
    go_wp2
    generalize hw1 : World.alloc w _ = w1 at HBX HB1 ⊢
    clear hw1
    go_loopw [5, 13] (fun s k W => ∃ j S : Nat, j ≤ n ∧ S ≤ 1000000 ∧ k = .int .i64 ((j : Nat) : Int) ∧ s = .int .i64 ((S : Nat) : Int) ∧ S = VD.partsL (v.l.take j) + 1 ∧ (∀ x ∈ v.l.take j, x.deep ≤ d') ∧ Below w1.heap.size w1 W) (fun _ k _ => n - (intOf k).toNat)
    case atStart => exact ⟨0, 1, by omega, by omega, rfl, rfl, by simp [VD.partsL], fun x hx => by simp at hx, Below.refl _ _⟩
    case round =>
      obtain ⟨j, S, hj, hS6, rfl, rfl, hS, hDe, hb⟩ := hrel
      have HB := hide hb
      have HSD := hide hS
      have HDE := hide hDe
      have hbx := (unhide HBX).later hb
      have c3 := hbx.c3
      rw [← unhide HN] at c3
      have HEL := hide hbx.el
      have hj6 : j ≤ 1000000 := by
        have h1 := VD.partsL_length (v.l.take j)
        rw [List.length_take, ← unhide HN] at h1
        omega
      clear hb hbx hS hDe
      by_cases hlt : j < n
      · have hji : ((j : Nat) : Int) < ((n : Nat) : Int) := by omega
        have hjl : j < v.l.length := by have := unhide HN; omega
        obtain ⟨b, o, e0, e1, e2, e3, rfl, _, d0, d1, d2, d3, he⟩ := unhide HEL j hjl
        have HT : Hid (VD.partsL (v.l.take (j + 1)) = VD.partsL (v.l.take j) + (v.l[j]).parts) := by
          show _ = _
          rw [List.take_succ_eq_append_getElem hjl, VD.partsL_append]
          simp [VD.partsL]
        have HTD : Hid ((v.l[j]).deep ≤ d' → ∀ x ∈ v.l.take (j + 1), x.deep ≤ d') := fun h x hx => by
          rw [List.take_succ_eq_append_getElem hjl] at hx
          rcases List.mem_append.1 hx with h1 | h1
          · exact unhide HDE x h1
          · rw [List.mem_singleton.1 h1]; exact h
        have he2 := he
        rw [VD.at_iff] at he2
        obtain ⟨xa, xc, hu, _⟩ := he2
        simp only [Value.agg.injEq] at hu
        replace hu := congrArg Array.toList hu
        simp only [List.cons.injEq, and_true] at hu
        obtain ⟨g0, g1, g2, g3⟩ := hu
        obtain ⟨xk, hxk⟩ : ∃ xk, xk = (v.l[j]).k := ⟨_, rfl⟩
        obtain ⟨xn, hxn⟩ : ∃ xn, xn = (v.l[j]).n := ⟨_, rfl⟩
        obtain ⟨xz, hxz⟩ : ∃ xz : ByteArray, xz = ⟨(v.l[j]).s.toArray⟩ := ⟨_, rfl⟩
        obtain ⟨xl, hxl⟩ : ∃ xl, xl = (v.l[j]).l.length := ⟨_, rfl⟩
        rw [← hxk] at g0
        rw [← hxn] at g1
        rw [← hxz] at g2
        rw [← hxl] at g3
        subst g0 g1 g2 g3
        obtain ⟨W2, hW2⟩ : ∃ W2, W2 = wr.alloc (.cells #[.int .u8 ((xk : Nat) : Int), .int .i64 xn, .string xz, .slice xa xl xc] 24) := ⟨_, rfl⟩
        have hb2 : Below wr.heap.size wr W2 := by rw [hW2]; exact (Below.refl _ _).alloc (Nat.le_refl _) _
        have HBW2 := hide ((unhide HB).trans (hb2.mono (unhide HB).size))
        have HC := hide (unhide HIH d' (unhide HD) (v.l[j]) B _ W2 (he.later hb2))
        have hg7 : W2.heap[wr.heap.size]? = some (.cells #[.int .u8 ((xk : Nat) : Int), .int .i64 xn, .string xz, .slice xa xl xc] 24 (0, 0)) := by rw [hW2]; exact heap_alloc_new wr _
        obtain ⟨⟨i0, i1, i2, i3⟩, _⟩ := cells4 hg7
        have HW2 := hide hW2
        clear he HEL hxk hxn hxz hxl hb2 hg7 hW2
        go_upto_region 7 with fail
        rw [← unhide HW2]
        clear HW2
        go_wp2_with fail
        refine (unhide HC).mono ?_
        rintro e w2 ⟨⟨R, rfl, hR1, hR2⟩, hb2⟩
        have hRb : R ≤ 21000000 := by omega
        have HR2 := hide hR2
        have HB2 := hide ((unhide HBW2).trans (hb2.mono (unhide HBW2).size))
        obtain ⟨T, hT⟩ : ∃ T, T = S + R := ⟨_, rfl⟩
        have hTi : ((S : Nat) : Int) + ((R : Nat) : Int) = ((T : Nat) : Int) := by omega
        have hTb : T ≤ 22000000 := by omega
        have HTT := hide hT
        have HR1 := hide hR1
        clear hb2 hR2 hT hR1
        by_cases hbig : T > 1000000
        · have HFB := hide ((unhide HB1).trans ((unhide HB2).mono (unhide HB1).size))
          go_wp2_with fail
          go_ret
          exact ⟨⟨T, rfl, by have := unhide HD; have := unhide HTT; have := unhide HR1; omega, fun h => by omega⟩, unhide HFB⟩
        · have hp := unhide HR2 (by
            have h1 := unhide HTT
            have h2 := unhide HSD
            omega)
          have HP1 := hide hp.1
          have HP2 := hide hp.2
          clear hp
          go_wp2_with fail
          exact ⟨⟨j + 1, T, by omega, by omega, by go_num, rfl, by rw [unhide HT, unhide HP2]; have := unhide HSD; have := unhide HTT; omega, unhide HTD (unhide HP1), unhide HB2⟩, by simp [intOf]; omega⟩
      · have e : j = n := by omega
        have hji : ¬ ((j : Nat) : Int) < ((n : Nat) : Int) := by omega
        have HFB := hide ((unhide HB1).trans ((unhide HB).mono (unhide HB1).size))
        have HFE : Hid (Fewer v d S) := by
          refine ⟨by omega, fun _ => ?_⟩
          have h1 := unhide HSD
          have h2 := unhide HDE
          rw [List.take_of_length_le (by have := unhide HN; omega)] at h1 h2
          have h3 := VD.deepL_le h2
          have h4 := unhide HD
          rw [VD.deep_mk, VD.parts_mk]
          exact ⟨by omega, by omega⟩
        clear e
        go_wp2
        go_ret
        exact ⟨⟨S, rfl, unhide HFE⟩, unhide HFB⟩

theorem vFew_any (d : Nat) : d ≤ 20 → ∀ (v : VD) (B : Nat → Prop) (u : Value) (w : World), v.At B w u → Calls Tryd.prog 29 #[u, .int .i64 ((d : Nat) : Int)] w fun e w' => (∃ R : Nat, e = .returned (.int .i64 ((R : Nat) : Int)) ∧ Fewer v d R) ∧ Below w.heap.size w w' := by
  induction d with
  | zero => exact fun h v B u w hA => vFew_step 0 h (fun d' e => by omega) v B u w hA
  | succ d ih =>
    intro h v B u w hA
    refine vFew_step (d + 1) h (fun d' e => ?_) v B u w hA
    obtain rfl : d = d' := by omega
    exact ih (by omega)
end Go.Proofs.YtobgmbfoofkdeaaDoor

namespace Go.Proofs.YtobgmbfoofkdeaaDoor
open Go.RowKit

set_option maxRecDepth 100000 in
set_option maxHeartbeats 2000000 in
/-- A value of which Few says true is light. -/
theorem vFewTop_any (v : VD) (B : Nat → Prop) (u : Value) (w : World) (hA : v.At B w u) : Calls Tryd.prog 8 #[u] w fun e w' => (∃ b : Bool, e = .returned (.bool b) ∧ (b = true → v.deep ≤ 20 ∧ v.parts ≤ 600)) ∧ Below w.heap.size w w' := by
  obtain ⟨a, c, rfl, hlc, hbox⟩ := hA.box
  have HBX := hide (hbox 24)
  have HB1 : Hid (Below w.heap.size w (w.alloc (.cells #[.int .u8 ((v.k : Nat) : Int), .int .i64 v.n, .string ⟨v.s.toArray⟩, .slice a v.l.length c] 24))) := (Below.refl _ w).alloc (Nat.le_refl _) _
  have HC := hide (vFew_any 20 (Nat.le_refl _) v B _ _ (hA.later (unhide HB1)))
  clear hA hbox
  obtain ⟨n, hn⟩ : ∃ n, n = v.l.length := ⟨_, rfl⟩
  have HN := hide hn
  rw [← hn] at hlc ⊢ HBX HB1 HC
  clear hn
  have hbx := unhide HBX
  have c0 := hbx.c0
  have c1 := hbx.c1
  have c2 := hbx.c2
  have c3 := hbx.c3
  rw [← unhide HN] at c3
  clear hbx
  generalize (⟨v.s.toArray⟩ : ByteArray) = z at *
  generalize v.k = k at *
  generalize v.n = x at *
  go_enter Tryd.func8, Tryd.ntmps8
  go_upto_region 1 with fail
  generalize hw1 : World.alloc w _ = w1 at HBX HB1 HC c0 c1 c2 c3 ⊢
  clear hw1
  go_wp2_with fail
  refine (unhide HC).mono ?_
  rintro e w2 ⟨⟨R, rfl, hR1, hR2⟩, hb2⟩
  have HFB := hide ((unhide HB1).trans (hb2.mono (unhide HB1).size))
  have HR2 := hide hR2
  clear hb2 hR1 hR2
  by_cases h6 : ((R : Nat) : Int) ≤ 600
  · have h6d : decide (((R : Nat) : Int) ≤ 600) = true := decide_eq_true h6
    have h6n : decide (R ≤ 600) = true := decide_eq_true (by omega)
    have HR6 : Hid (R ≤ 600) := by show _ ≤ _; omega
    clear h6
    go_wp2_with fail
    go_ret
    refine ⟨⟨true, rfl, fun _ => ?_⟩, unhide HFB⟩
    have := unhide HR6
    have h := unhide HR2 (by omega)
    exact ⟨h.1, by rw [h.2]; exact this⟩
  · have h6d : decide (((R : Nat) : Int) ≤ 600) = false := decide_eq_false h6
    have h6n : decide (R ≤ 600) = false := decide_eq_false (by omega)
    clear h6
    go_wp2_with fail
    go_ret
    exact ⟨⟨false, rfl, fun h => by cases h⟩, unhide HFB⟩
end Go.Proofs.YtobgmbfoofkdeaaDoor

namespace Go.Proofs.YtobgmbfoofkdeaaDoor
open Go.RowKit

theorem set4_size (W : World) (g : Nat) (x y z u : Value) : ((((W.setCell ⟨g, 0, none⟩ x).setCell ⟨g, 1, none⟩ y).setCell ⟨g, 2, none⟩ z).setCell ⟨g, 3, none⟩ u).heap.size = W.heap.size := by
  rw [World.size_setCell, World.size_setCell, World.size_setCell, World.size_setCell]
theorem set4_block (W : World) (g : Nat) (x y z u : Value) {k : Nat} (h : k ≠ g) : ((((W.setCell ⟨g, 0, none⟩ x).setCell ⟨g, 1, none⟩ y).setCell ⟨g, 2, none⟩ z).setCell ⟨g, 3, none⟩ u).heap[k]? = W.heap[k]? := by
  rw [Below.heap_setCell _ _ _ _ h, Below.heap_setCell _ _ _ _ h, Below.heap_setCell _ _ _ _ h, Below.heap_setCell _ _ _ _ h]

set_option maxRecDepth 100000 in
set_option maxHeartbeats 2000000 in
/-- The document's Take. -/
theorem vRefTake_any (a : Option Addr) (n c : Nat) (bs : List UInt8) (w : World) (h : Bytes w (.slice a n c) bs) (hn : n ≤ 1048576) : Calls Tryd.prog 22 #[.slice a n c] w fun e w' => TookV w bs 6 e w' ∧ Below w.heap.size w w' := by
  obtain ⟨w1, hw1⟩ : ∃ w1, w1 = w.alloc (.cells #[.int .u8 0, .int .i64 0, .string ⟨#[]⟩, .slice none 0 0] 24) := ⟨_, rfl⟩
  have HB1 : Hid (Below w.heap.size w w1) := by rw [hw1]; exact (Below.refl _ w).alloc (Nat.le_refl _) _
  have HG1 : Hid (w1.heap[w.heap.size]? = some (.cells #[.int .u8 0, .int .i64 0, .string ⟨#[]⟩, .slice none 0 0] 24 (0, 0))) := by rw [hw1]; exact heap_alloc_new w _
  have HS1 : Hid (w1.heap.size = w.heap.size + 1) := by rw [hw1]; show _ = _; simp
  have HC := hide (vRead_any 6 (by omega) a n c bs w1 (h.laterW3 (unhide HB1)) hn)
  have HW1 := hide hw1
  clear h hw1
  go_enter Tryd.func22, Tryd.ntmps22
  go_upto_region 1 with fail
  rw [← unhide HW1]
  clear HW1
  go_wp2_with fail
  refine (unhide HC).mono ?_
  rintro e W ⟨ht, hb⟩
  have HG2 : Hid (W.heap[w.heap.size]? = some (.cells #[.int .u8 0, .int .i64 0, .string ⟨#[]⟩, .slice none 0 0] 24 (0, 0))) := by
    show _ = _
    rw [hb.block _ (by have := unhide HS1; omega)]; exact unhide HG1
  have HB2 := hide ((unhide HB1).trans (hb.mono (unhide HB1).size))
  obtain ⟨⟨c40, c41, c42, c43⟩, f40, f41, f42, f43⟩ := cells4 (unhide HG2)
  clear hb
  rcases ht with ⟨x, m, u, hv, rfl, hAt⟩ | ⟨hNo, rfl⟩
  · have HV := hide hv
    have HAT := hide hAt
    rw [VD.at_iff] at hAt
    obtain ⟨ea, ec, hu, _, _, _, _, _, _⟩ := hAt
    obtain ⟨xk, hxk⟩ : ∃ xk, xk = x.k := ⟨_, rfl⟩
    obtain ⟨xn, hxn⟩ : ∃ xn, xn = x.n := ⟨_, rfl⟩
    obtain ⟨z, hz⟩ : ∃ z : ByteArray, z = ⟨x.s.toArray⟩ := ⟨_, rfl⟩
    obtain ⟨xl, hxl⟩ : ∃ xl, xl = x.l.length := ⟨_, rfl⟩
    rw [← hxk, ← hxn, ← hz, ← hxl] at hu
    subst hu
    clear hv hxk hxn hz hxl
    go_wp2_with fail
    refine bodyPost_ret (results_ctv rfl _ _ _ _ _ _ _ rfl (set4_heap (unhide HG2) _ _ _ _) Tryd.underlying24 rfl (by kernel_rfl)) rfl ?_
    refine ⟨.inl ⟨x, m, _, unhide HV, rfl, ?_⟩, set4_below (unhide HB2) (Nat.le_refl _) _ _ _ _⟩
    exact (unhide HAT).kept (fun k hk _ => set4_block _ _ _ _ _ _ (by have := unhide HS1; omega)) (fun k hk _ => by have := unhide HS1; omega)
  · have HNO := hide hNo
    rw [zeroV]
    clear hNo
    go_wp2_with fail
    refine bodyPost_ret (results_ctv rfl _ _ _ _ _ _ _ rfl (set4_heap (unhide HG2) _ _ _ _) Tryd.underlying24 rfl (by kernel_rfl)) rfl ?_
    exact took_no (unhide HNO) (unhide HB2) rfl
end Go.Proofs.YtobgmbfoofkdeaaDoor

namespace Go.Proofs.YtobgmbfoofkdeaaDoor
open Go.RowKit

theorem VD.partsL_ext : ∀ {l q : List VD}, l.length = q.length → (∀ j (h : j < l.length) (h' : j < q.length), (l[j]'h).parts = (q[j]'h').parts) → VD.partsL l = VD.partsL q
  | [], [], _, _ => rfl
  | x :: l, y :: q, h, e => by
    have h0 := e 0 (by simp) (by simp)
    have := VD.partsL_ext (l := l) (q := q) (by simpa using h) fun j a b => e (j + 1) (by simpa using a) (by simpa using b)
    simp only [List.getElem_cons_zero] at h0
    simp only [VD.partsL, h0, this]
theorem VD.deepL_ext : ∀ {l q : List VD}, l.length = q.length → (∀ j (h : j < l.length) (h' : j < q.length), (l[j]'h).deep = (q[j]'h').deep) → VD.deepL l = VD.deepL q
  | [], [], _, _ => rfl
  | x :: l, y :: q, h, e => by
    have h0 := e 0 (by simp) (by simp)
    have := VD.deepL_ext (l := l) (q := q) (by simpa using h) fun j a b => e (j + 1) (by simpa using a) (by simpa using b)
    simp only [List.getElem_cons_zero] at h0
    simp only [VD.deepL, h0, this]

/-- A struct reads as one value alone. -/
theorem VD.At.unique {B B' : Nat → Prop} {W : World} : ∀ {v v' : VD} {u : Value}, v.At B W u → v'.At B' W u → v = v' := by
  intro v
  induction v using VD.induct with
  | h v ih =>
    intro v' u h h'
    rw [VD.at_iff] at h h'
    obtain ⟨a, c, rfl, _, _, _, _, _, hE⟩ := h
    obtain ⟨a', c', hu, _, _, _, _, _, hE'⟩ := h'
    simp only [Value.agg.injEq] at hu
    replace hu := congrArg Array.toList hu
    simp only [List.cons.injEq, and_true, Value.int.injEq, true_and, Value.string.injEq, Value.slice.injEq, ByteArray.mk.injEq] at hu
    obtain ⟨hk, hn, hs, ha, hl, _⟩ := hu
    subst ha
    obtain ⟨k, n, s, l⟩ := v
    obtain ⟨k', n', s', l'⟩ := v'
    simp only [VD.k, VD.n, VD.s, VD.l] at hk hn hs hl hE hE' ih
    have hk' : k = k' := by omega
    have hs' : s = s' := by simpa using congrArg Array.toList hs
    have hll : l = l' := by
      refine List.ext_getElem hl fun j h1 h2 => ?_
      obtain ⟨b, o, e0, e1, e2, e3, ha, _, c0, c1, c2, c3, he⟩ := hE j h1
      obtain ⟨b', o', f0, f1, f2, f3, ha', _, d0, d1, d2, d3, hf⟩ := hE' j h2
      rw [ha] at ha'
      simp only [Option.some.injEq, Addr.mk.injEq, and_true] at ha'
      obtain ⟨rfl, rfl⟩ := ha'
      rw [c0] at d0; cases d0
      rw [c1] at d1; cases d1
      rw [c2] at d2; cases d2
      rw [c3] at d3; cases d3
      exact ih _ (List.getElem_mem h1) he hf
    rw [hk', hn, hs', hll]

theorem elems_ofV {n : Nat} {P : Nat → VD → Prop} (h : ∀ i, i < n → ∃ v : VD, P i v) : ∃ l : List VD, l.length = n ∧ ∀ i (hi : i < l.length), P i (l[i]'hi) := by
  refine ⟨(List.range n).map fun i => if hi : i < n then Classical.choose (h i hi) else .mk 0 0 [] [], by simp, fun i hi => ?_⟩
  have hi' : i < n := by simpa using hi
  simp only [List.getElem_map, List.getElem_range, dif_pos hi']
  exact Classical.choose_spec (h i hi')

/-- A number's cell is stored anew: the value reads as one of the same form. -/
theorem VD.At.poke {B : Nat → Prop} {W : World} {p : Addr} {x y : Int} (hp : W.cell? p = some (.int .i64 x)) (hy : InR y) : ∀ {v : VD} {u : Value}, v.At B W u → ∃ v' : VD, v'.At B (W.setCell p (.int .i64 y)) u ∧ v'.k = v.k ∧ v'.s = v.s ∧ v'.n = v.n ∧ v'.parts = v.parts ∧ v'.deep = v.deep := by
  intro v
  induction v using VD.induct with
  | h v ih =>
    intro u h
    rw [VD.at_iff] at h
    obtain ⟨a, c, rfl, hk, hn, hs, hl, hc, hE⟩ := h
    have other : ∀ (q : Addr) (e : Value), W.cell? q = some e → (∀ z, e ≠ .int .i64 z) → (W.setCell p (.int .i64 y)).cell? q = some e := fun q e hq he => by
      rw [World.cell?_setCell_other W p q _ (fun hpq => by
        rw [hpq] at hp
        rw [hp] at hq
        cases hq
        exact he x rfl)]
      exact hq
    have each : ∀ j, j < v.l.length → ∃ v' : VD, v'.Elem B (W.setCell p (.int .i64 y)) a j ∧ ∀ h : j < v.l.length, v'.parts = (v.l[j]'h).parts ∧ v'.deep = (v.l[j]'h).deep := fun j hj => by
      obtain ⟨b, o, e0, e1, e2, e3, ha, hb, c0, c1, c2, c3, he⟩ := hE j hj
      obtain ⟨v', h1, h2, h3, h4, h5, h6⟩ := ih _ (List.getElem_mem hj) he
      rw [VD.at_iff] at h1
      obtain ⟨a', c', hu, i1, i2, i3, i4, i5, i6⟩ := h1
      simp only [Value.agg.injEq] at hu
      replace hu := congrArg Array.toList hu
      simp only [List.cons.injEq, and_true] at hu
      obtain ⟨rfl, rfl, rfl, rfl⟩ := hu
      have k0 := other _ _ c0 (fun z e => by cases e)
      have k2 := other _ _ c2 (fun z e => by cases e)
      have k3 := other _ _ c3 (fun z e => by cases e)
      by_cases hpq : p = ⟨b, o + j * 4 + 1, none⟩
      · have k1 : (W.setCell p (.int .i64 y)).cell? ⟨b, o + j * 4 + 1, none⟩ = some (.int .i64 y) := by
          rw [← hpq]
          exact World.cell?_setCell_same _ _ _ hp
        refine ⟨.mk v'.k y v'.s v'.l, ⟨b, o, _, _, _, _, ha, hb, k0, k1, k2, k3, ?_⟩, fun _ => ⟨?_, ?_⟩⟩
        · rw [VD.at_iff]
          exact ⟨a', c', rfl, i1, hy, i3, i4, i5, i6⟩
        · rw [← h5, VD.parts_mk, VD.parts_mk]; rfl
        · rw [← h6, VD.deep_mk, VD.deep_mk]; rfl
      · have k1 : (W.setCell p (.int .i64 y)).cell? ⟨b, o + j * 4 + 1, none⟩ = some (.int .i64 v'.n) := by
          rw [World.cell?_setCell_other W p _ _ hpq]; exact c1
        refine ⟨v', ⟨b, o, _, _, _, _, ha, hb, k0, k1, k2, k3, ?_⟩, fun _ => ⟨h5, h6⟩⟩
        rw [VD.at_iff]
        exact ⟨a', c', rfl, i1, i2, i3, i4, i5, i6⟩
    obtain ⟨q, hq, hQ⟩ := elems_ofV each
    refine ⟨.mk v.k v.n v.s q, ?_, rfl, rfl, rfl, ?_, ?_⟩
    · rw [VD.at_iff]
      exact ⟨a, c, by simp only [VD.k, VD.n, VD.s, VD.l, hq], hk, hn, hs, by simp only [VD.l]; omega, hc, fun j hj => (hQ j hj).1⟩
    · rw [VD.parts_mk, VD.parts_mk]
      show VD.partsL q + 1 = _
      rw [VD.partsL_ext hq fun j h1 h2 => ((hQ j h1).2 h2).1]
    · rw [VD.deep_mk, VD.deep_mk]
      show VD.deepL q + 1 = _
      rw [VD.deepL_ext hq fun j h1 h2 => ((hQ j h1).2 h2).2]
end Go.Proofs.YtobgmbfoofkdeaaDoor

namespace Go.Proofs.YtobgmbfoofkdeaaDoor
open Go.RowKit

/-- But for the block h, whose first cell is the number z, the world is as it was. -/
structure HS (W W2 : World) (h : Nat) (z : Int) : Prop where
  os : W2.os = W.os
  tape : W2.tape = W.tape
  output : W2.output = W.output
  size : W2.heap.size = W.heap.size
  block : ∀ k, k ≠ h → W2.heap[k]? = W.heap[k]?
  cell : W2.cell? ⟨h, 0, none⟩ = some (.int .i64 z)
  frozen : W2.frozen? ⟨h, 0, none⟩ = false
theorem HS.set {W W2 : World} {h : Nat} {z : Int} (H : HS W W2 h z) (z' : Int) : HS W (W2.setCell ⟨h, 0, none⟩ (.int .i64 z')) h z' :=
  have b := (Below.refl 0 W2).setCell (p := ⟨h, 0, none⟩) (Nat.zero_le _) (.int .i64 z')
  ⟨b.os.trans H.os, b.tape.trans H.tape, b.output.trans H.output, (World.size_setCell _ _ _).trans H.size, fun k hk => (Below.heap_setCell _ _ _ _ hk).trans (H.block k hk), World.cell?_setCell_same _ _ _ H.cell, by rw [World.frozen?_setCell]; exact H.frozen⟩
theorem HS.trans {W W2 W3 : World} {h : Nat} {z z' : Int} (H : HS W W2 h z) (H' : HS W2 W3 h z') : HS W W3 h z' :=
  ⟨H'.os.trans H.os, H'.tape.trans H.tape, H'.output.trans H.output, H'.size.trans H.size, fun k hk => (H'.block k hk).trans (H.block k hk), H'.cell, H'.frozen⟩
theorem HS.other {W W2 : World} {h : Nat} {z : Int} (H : HS W W2 h z) {p : Addr} (hp : p.block ≠ h) : W2.cell? p = W.cell? p := World.cell?_of_block (H.block _ hp)

/-- A value at an address. -/
def PV (B : Nat → Prop) (W : World) (g o : Nat) (v : VD) : Prop := ∃ e0 e1 e2 e3, W.cell? ⟨g, o, none⟩ = some e0 ∧ W.cell? ⟨g, o + 1, none⟩ = some e1 ∧ W.cell? ⟨g, o + 2, none⟩ = some e2 ∧ W.cell? ⟨g, o + 3, none⟩ = some e3 ∧ v.At B W (.agg #[e0, e1, e2, e3])
theorem PV.hs {B : Nat → Prop} {W W2 : World} {g o h : Nat} {z : Int} {v : VD} (H : HS W W2 h z) (hg : g ≠ h) (hB : ∀ k, B k → k ≠ h) (hv : PV B W g o v) : PV B W2 g o v := by
  obtain ⟨e0, e1, e2, e3, c0, c1, c2, c3, hA⟩ := hv
  exact ⟨e0, e1, e2, e3, (H.other hg).trans c0, (H.other hg).trans c1, (H.other hg).trans c2, (H.other hg).trans c3, hA.kept (fun k hk _ => H.block k (hB k hk)) (fun _ hk _ => hk)⟩
/-- What its cells are. -/
theorem PV.cells {B : Nat → Prop} {W : World} {g o : Nat} {v : VD} (h : PV B W g o v) : ∃ a c, W.cell? ⟨g, o + 1, none⟩ = some (.int .i64 v.n) ∧ W.cell? ⟨g, o + 3, none⟩ = some (.slice a v.l.length c) ∧ InR v.n ∧ v.l.length ≤ c ∧ c ≤ maxLen ∧ ∀ j (hj : j < v.l.length), ∃ b i, a = some ⟨b, i, none⟩ ∧ B b ∧ PV B W b (i + j * 4) (v.l[j]'hj) := by
  obtain ⟨e0, e1, e2, e3, c0, c1, c2, c3, hA⟩ := h
  rw [VD.at_iff] at hA
  obtain ⟨a, c, hu, _, hn, _, hl, hc, hE⟩ := hA
  simp only [Value.agg.injEq] at hu
  replace hu := congrArg Array.toList hu
  simp only [List.cons.injEq, and_true] at hu
  obtain ⟨rfl, rfl, rfl, rfl⟩ := hu
  refine ⟨a, c, c1, c3, hn, hl, hc, fun j hj => ?_⟩
  obtain ⟨b, i, f0, f1, f2, f3, ha, hb, d0, d1, d2, d3, hx⟩ := hE j hj
  exact ⟨b, i, ha, hb, f0, f1, f2, f3, d0, d1, d2, d3, hx⟩
theorem PV.unique {B B' : Nat → Prop} {W : World} {g o : Nat} {v v' : VD} (h : PV B W g o v) (h' : PV B' W g o v') : v = v' := by
  obtain ⟨e0, e1, e2, e3, c0, c1, c2, c3, hA⟩ := h
  obtain ⟨f0, f1, f2, f3, d0, d1, d2, d3, hA'⟩ := h'
  rw [c0] at d0; cases d0
  rw [c1] at d1; cases d1
  rw [c2] at d2; cases d2
  rw [c3] at d3; cases d3
  exact hA.unique hA'

/-- What change tells: the number of the part that was asked for is another; or the value has not that many parts. -/
def Changed (B : Nat → Prop) (W : World) (g o h : Nat) (v : VD) (kk : Nat) (e : Ending) (W' : World) : Prop :=
  ∃ W2 z, HS W W2 h z ∧ ((kk < v.parts ∧ e = .returned (.bool true) ∧ ∃ q x y, W2.cell? q = some (.int .i64 x) ∧ InR y ∧ (q.block = g ∨ B q.block) ∧ W' = W2.setCell q (.int .i64 y) ∧ ∀ v', PV B W' g o v' → v' ≠ v) ∨ (v.parts ≤ kk ∧ e = .returned (.bool false) ∧ z = ((kk - v.parts : Nat) : Int) ∧ W' = W2))

theorem wrap64_other (n : Int) : InR (wrap64 (n + 1)) ∧ (InR n → wrap64 (n + 1) ≠ n) := by
  unfold InR wrap64
  omega

set_option maxRecDepth 100000 in
set_option maxHeartbeats 4000000 in
theorem vChange_any (v : VD) : ∀ (B : Nat → Prop) (W : World) (g o h kk : Nat), PV B W g o v → g ≠ h → (∀ k, B k → k ≠ h) → (∀ k i, (k = g ∨ B k) → W.frozen? ⟨k, i, none⟩ = false) → W.cell? ⟨h, 0, none⟩ = some (.int .i64 ((kk : Nat) : Int)) → W.frozen? ⟨h, 0, none⟩ = false → v.parts ≤ 1000000 → kk ≤ 1000000 →
    Calls Tryd.prog 26 #[.pointer (some ⟨g, o, none⟩), .pointer (some ⟨h, 0, none⟩)] W fun e W' => Changed B W g o h v kk e W' := by
  induction v using VD.induct with
  | h v ih =>
    intro B W g o h kk hP hgh hBh hF hk hkf hp6 hk6
    obtain ⟨a, c, n1, n3, hn, hlc, hcm, hE⟩ := hP.cells
    have HPV := hide hP
    have HF := hide hF
    have HBH := hide hBh
    have HIH := hide ih
    have HP6 := hide hp6
    have HNN := hide hn
    have HGH := hide hgh
    have HH0 : Hid (HS W W h ((kk : Nat) : Int)) := ⟨rfl, rfl, rfl, rfl, fun _ _ => rfl, hk, hkf⟩
    have fn := hF g (o + 1) (.inl rfl)
    clear hP hF hBh ih hp6 hE hn
    by_cases hk0 : kk = 0
    · have hkb : (((kk : Nat) : Int) == 0) = true := by rw [hk0]; rfl
      obtain ⟨N, hN⟩ : ∃ N, N = v.n := ⟨_, rfl⟩
      have HN := hide hN
      rw [← hN] at n1
      clear hN hgh
      go_enter Tryd.func26, Tryd.ntmps26
      go_wp2
      go_ret
      refine ⟨W, _, unhide HH0, .inl ⟨by rw [hk0]; exact v.parts_pos, rfl, ⟨g, o + 1, none⟩, N, wrap64 (N + 1), n1, (wrap64_other N).1, .inl rfl, rfl, fun v' hv' e => ?_⟩⟩
      obtain ⟨_, _, m1, _⟩ := hv'.cells
      rw [World.cell?_setCell_same _ _ _ n1, e] at m1
      simp only [Option.some.injEq, Value.int.injEq, true_and] at m1
      exact (wrap64_other N).2 (by rw [unhide HN]; exact unhide HNN) (m1.trans (unhide HN).symm)
    · have hkb : (((kk : Nat) : Int) == 0) = false := by rw [beq_eq_false_iff_ne]; omega
      obtain ⟨K, hK⟩ : ∃ K, kk = K + 1 := ⟨kk - 1, by omega⟩
      have hKi : ((kk : Nat) : Int) - 1 = ((K : Nat) : Int) := by omega
      have hK6 : K ≤ 1000000 := by omega
      have HK := hide hK
      obtain ⟨W1, hW1⟩ : ∃ W1, W1 = W.setCell ⟨h, 0, none⟩ (.int .i64 ((K : Nat) : Int)) := ⟨_, rfl⟩
      have HH1 : Hid (HS W W1 h ((K : Nat) : Int)) := by rw [hW1]; exact (unhide HH0).set _
      have HW1 := hide hW1
      obtain ⟨n, hnl⟩ : ∃ n, n = v.l.length := ⟨_, rfl⟩
      have HNL := hide hnl
      rw [← hnl] at n3 hlc
      have hn6 : n ≤ 1000000 := by have h1 := VD.partsL_length v.l; have h2 := v.parts_mk; have := unhide HP6; omega
      have m3 : W1.cell? ⟨g, o + 3, none⟩ = some (.slice a n c) := ((unhide HH1).other (p := ⟨g, o + 3, none⟩) hgh).trans n3
      clear hk0 hK hW1 hnl hgh n3
      go_enter Tryd.func26, Tryd.ntmps26
      go_upto_region 5 with fail
      rw [← unhide HW1]
      clear HW1
      go_wp2
      go_loopw [27] (fun i X => ∃ j : Nat, j ≤ n ∧ i = .int .i64 ((j : Nat) : Int) ∧ VD.partsL (v.l.take j) ≤ K ∧ HS W X h ((K - VD.partsL (v.l.take j) : Nat) : Int)) (fun i _ => n - (intOf i).toNat)
      case atStart => exact ⟨0, by omega, rfl, Nat.zero_le _, unhide HH1⟩
      case round =>
        obtain ⟨j, hj, rfl, hjK, hX⟩ := hrel
        have HX := hide hX
        have HJK := hide hjK
        have hpx := (unhide HPV).hs hX (unhide HGH) (unhide HBH)
        obtain ⟨a', c', _, x3, _, hlc', _, hE⟩ := hpx.cells
        rw [← unhide HNL] at x3 hlc'
        have HE := hide hE
        clear hX hjK hpx hE m3
        by_cases hlt : j < n
        · have hji : ((j : Nat) : Int) < ((n : Nat) : Int) := by omega
          have hjl : j < v.l.length := by have := unhide HNL; omega
          obtain ⟨b, i, rfl, hb, hx⟩ := unhide HE j hjl
          have hmem : v.l[j] ∈ v.l := List.getElem_mem hjl
          have HT : Hid (VD.partsL (v.l.take (j + 1)) = VD.partsL (v.l.take j) + (v.l[j]).parts) := by
            show _ = _
            rw [List.take_succ_eq_append_getElem hjl, VD.partsL_append]
            simp [VD.partsL]
          have HTL := hide (VD.partsL_take v.l (j + 1))
          have HC := hide (unhide HIH _ hmem B wr b (i + j * 4) h (K - VD.partsL (v.l.take j)) hx (unhide HBH b hb) (unhide HBH) (fun k o' hk' => by
            have hB : B k := hk'.elim (fun e => by rw [e]; exact hb) id
            rw [World.frozen?_of_block (a := ⟨k, o', none⟩) ((unhide HX).block k (unhide HBH k hB))]
            exact unhide HF k o' (.inr hB)) (unhide HX).cell (unhide HX).frozen (by have h1 := VD.parts_lt hmem; have := unhide HP6; omega) (by omega))
          have HB := hide hb
          clear hx hmem hb
          go_wp2_with fail
          refine (unhide HC).mono ?_
          rintro e W' ⟨W2, z, hs, ⟨h1, rfl, q, x, y, h2, h3, h4, h5, h6⟩ | ⟨h1, rfl, h2, h3⟩⟩
          · have HS2 := hide ((unhide HX).trans hs)
            have HSS := hide hs
            have H1 := hide h1
            have H2 := hide h2
            have H3 := hide h3
            have H4 := hide h4
            have H5 := hide h5
            have H6 := hide h6
            have X3 := hide x3
            clear hs h1 h2 h3 h4 h5 h6
            go_wp2_with fail
            go_ret
            refine ⟨W2, z, unhide HS2, .inl ⟨?_, rfl, q, x, y, unhide H2, unhide H3, .inr ((unhide H4).elim (fun e => by rw [e]; exact unhide HB) id), unhide H5, fun v' hv' e => ?_⟩⟩
            · have t1 := unhide H1
              have t2 := unhide HT
              have t3 := unhide HTL
              have t4 := unhide HK
              have t5 := unhide HJK
              have t6 := v.parts_mk
              omega
            · rw [e] at hv'
              obtain ⟨a2, c2, _, y3, _, _, _, hE2⟩ := hv'.cells
              obtain ⟨b2, i2, ha2, _, hx2⟩ := hE2 j hjl
              have k3 : W2.cell? ⟨g, o + 3, none⟩ = some (.slice (some ⟨b, i, none⟩) n c') := ((unhide HSS).other (p := ⟨g, o + 3, none⟩) (unhide HGH)).trans (unhide X3)
              have hq : q ≠ ⟨g, o + 3, none⟩ := fun e => by
                have := unhide H2
                rw [e, k3] at this
                cases this
              rw [unhide H5, World.cell?_setCell_other W2 q _ _ hq, k3, ha2] at y3
              simp only [Option.some.injEq, Value.slice.injEq, Addr.mk.injEq, and_true] at y3
              obtain ⟨⟨rfl, rfl⟩, _⟩ := y3
              exact unhide H6 _ hx2 rfl
          · have HZ : Hid (z = ((K - VD.partsL (v.l.take (j + 1)) : Nat) : Int)) := by
              rw [h2, unhide HT]
              show ((_ : Nat) : Int) = _
              congr 1
              omega
            have HS2 : Hid (HS W W' h ((K - VD.partsL (v.l.take (j + 1)) : Nat) : Int)) := by
              rw [h3, ← unhide HZ]
              exact (unhide HX).trans hs
            have HJ2 : Hid (VD.partsL (v.l.take (j + 1)) ≤ K) := by
              have := unhide HJK
              rw [unhide HT]
              show _ ≤ _
              omega
            clear hs h1 h2 h3
            go_wp2_with fail
            exact ⟨⟨j + 1, by omega, by go_num, unhide HJ2, unhide HS2⟩, by simp [intOf]; omega⟩
        · have e : j = n := by omega
          have hji : ¬ ((j : Nat) : Int) < ((n : Nat) : Int) := by omega
          have HTT : Hid (VD.partsL (v.l.take j) + 1 = v.parts) := by show _ = _; rw [List.take_of_length_le (by have := unhide HNL; omega), VD.parts_mk]
          clear e
          go_wp2
          go_ret
          refine ⟨wr, _, unhide HX, .inr ⟨?_, rfl, ?_, rfl⟩⟩
          · have t1 := unhide HTT
            have t2 := unhide HJK
            have t3 := unhide HK
            omega
          · have t1 := unhide HTT
            have t3 := unhide HK
            congr 1
            omega
end Go.Proofs.YtobgmbfoofkdeaaDoor
