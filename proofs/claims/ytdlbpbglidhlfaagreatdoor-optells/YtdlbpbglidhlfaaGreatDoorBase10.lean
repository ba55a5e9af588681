/- ValImplS2, ValImplR, FragRight, FragRight2: our own definitions and contracts; no statement of the seat is proved here. -/
import Derived.Test.YtdlbpbglidhlfaaGreatDoorBase09
import Derived.Test.YtdlbpbglidhlfaaGreatDoorBase07
import Derived.Test.YtdlbpbglidhlfaaGreatDoorBase06
import Derived.Test.YtdlbpbglidhlfaaGreatDoorBase02
namespace Go.Proofs.YtdlbpbglidhlfaaGreatDoor
open Go.RowKit

set_option maxRecDepth 100000 in
set_option maxHeartbeats 2000000 in
theorem same1_any (x y : VD) (B B2 : Nat → Prop) (u1 u2 : Value) (g d : Nat) (w : World) (hx : x.At B w u1) (hy : y.At B2 w u2) (hg : w.cell? ⟨g, 0, none⟩ = some (.int .i64 ((d : Nat) : Int))) (hd : d ≤ 100000)
    (hC : ∀ W, Below w.heap.size w W → Calls Tryz.prog 50 #[u1, u2, .int .i64 ((d + 1 : Nat) : Int)] W fun e w' => e = .returned (.bool (x.same y)) ∧ Below W.heap.size W w') :
    Calls Tryz.prog 77 #[u1, u2, .pointer (some ⟨g, 0, none⟩)] w fun e w' => e = .returned (.bool (x.same y)) ∧ Below w.heap.size w w' := by
  obtain ⟨a, c, rfl, -, -⟩ := hx.box
  obtain ⟨a2, c2, rfl, -, -⟩ := hy.box
  obtain ⟨n, hn⟩ : ∃ n, n = x.l.length := ⟨_, rfl⟩
  obtain ⟨K, hK⟩ : ∃ K, K = x.k := ⟨_, rfl⟩
  obtain ⟨N, hN⟩ : ∃ N, N = x.n := ⟨_, rfl⟩
  obtain ⟨z, hz⟩ : ∃ z : ByteArray, z = ⟨x.s.toArray⟩ := ⟨_, rfl⟩
  obtain ⟨n2, hn2⟩ : ∃ n, n = y.l.length := ⟨_, rfl⟩
  obtain ⟨K2, hK2⟩ : ∃ K, K = y.k := ⟨_, rfl⟩
  obtain ⟨N2, hN2⟩ : ∃ N, N = y.n := ⟨_, rfl⟩
  obtain ⟨z2, hz2⟩ : ∃ z : ByteArray, z = ⟨y.s.toArray⟩ := ⟨_, rfl⟩
  rw [← hn, ← hK, ← hN, ← hz, ← hn2, ← hK2, ← hN2, ← hz2] at hC ⊢
  obtain ⟨W1, hW1⟩ : ∃ W1, W1 = (w.alloc (.cells #[.int .u8 ((K : Nat) : Int), .int .i64 N, .string z, .slice a n c] 24)).alloc (.cells #[.int .u8 ((K2 : Nat) : Int), .int .i64 N2, .string z2, .slice a2 n2 c2] 24) := ⟨_, rfl⟩
  have hb0 : Below w.heap.size w (w.alloc (.cells #[.int .u8 ((K : Nat) : Int), .int .i64 N, .string z, .slice a n c] 24)) := (Below.refl _ w).alloc (Nat.le_refl _) _
  have hb1 : Below w.heap.size w W1 := by rw [hW1]; exact hb0.alloc hb0.size _
  have hr1 : W1.heap[w.heap.size]? = some (.cells #[.int .u8 ((K : Nat) : Int), .int .i64 N, .string z, .slice a n c] 24 (0, 0)) := by
    rw [hW1, ((Below.refl _ _).alloc (Nat.le_refl _) _ : Below _ (w.alloc (.cells #[.int .u8 ((K : Nat) : Int), .int .i64 N, .string z, .slice a n c] 24)) _).block _ (by simp)]
    exact heap_alloc_new w _
  have hr2 : W1.heap[w.heap.size + 1]? = some (.cells #[.int .u8 ((K2 : Nat) : Int), .int .i64 N2, .string z2, .slice a2 n2 c2] 24 (0, 0)) := by
    have h := heap_alloc_new (w.alloc (.cells #[.int .u8 ((K : Nat) : Int), .int .i64 N, .string z, .slice a n c] 24)) (.cells #[.int .u8 ((K2 : Nat) : Int), .int .i64 N2, .string z2, .slice a2 n2 c2] 24)
    rw [hW1]
    simpa using h
  obtain ⟨⟨c0, c1, c2', c3⟩, -⟩ := cells4 hr1
  obtain ⟨⟨d0, d1, d2, d3⟩, -⟩ := cells4 hr2
  have g0 := (hb1.cell (World.block_lt_of_cell? _ _ hg)).trans hg
  obtain ⟨D, hD⟩ : ∃ D, D = d + 1 := ⟨_, rfl⟩
  have hDi : ((d : Nat) : Int) + 1 = ((D : Nat) : Int) := by omega
  rw [← hD] at hC
  have HC := hide (hC W1 hb1)
  have HB1 := hide hb1
  have HW1 := hide hW1
  generalize x.same y = p at *
  clear hx hy hn hK hN hz hn2 hK2 hN2 hz2 hb0 hb1 hr1 hr2 hC hD hg hW1
  go_enter Tryz.func77, Tryz.ntmps77
  go_upto_region 1 with fail
  rw [← unhide HW1]
  clear HW1
  go_wp2_with fail
  refine (unhide HC).mono ?_
  rintro e W6 ⟨rfl, hb6⟩
  have HB6 := hide ((unhide HB1).trans (hb6.mono (unhide HB1).size))
  clear hb6 c0 c1 c2' c3 d0 d1 d2 d3 g0
  go_wp2_with fail
  go_ret
  exact ⟨rfl, unhide HB6⟩

set_option maxRecDepth 100000 in
set_option maxHeartbeats 4000000 in
theorem sameAt_any (v : VD) : ∀ (v2 : VD) (B B2 : Nat → Prop) (u u2 : Value) (w : World) (d : Nat), v.At B w u → v2.At B2 w u2 → v.parts ≤ 1000000 → d + v.deep ≤ 60000 → Calls Tryz.prog 50 #[u, u2, .int .i64 ((d : Nat) : Int)] w fun e w' => e = .returned (.bool (v.same v2)) ∧ Below w.heap.size w w' := by
  induction v using VD.induct with
  | h v ih =>
    intro v2 B B2 u u2 w d hA hA2 hm hd
    obtain ⟨a, c, rfl, -, -⟩ := hA.box
    obtain ⟨a2, c2, rfl, -, -⟩ := hA2.box
    have HA := hide hA
    have HA2 := hide hA2
    have HSM := hide (VD.same_mk v v2)
    obtain ⟨K, hK⟩ : ∃ K, K = v.k := ⟨_, rfl⟩
    obtain ⟨N, hNn⟩ : ∃ N, N = v.n := ⟨_, rfl⟩
    obtain ⟨n, hn⟩ : ∃ n, n = v.l.length := ⟨_, rfl⟩
    obtain ⟨K2, hK2⟩ : ∃ K, K = v2.k := ⟨_, rfl⟩
    obtain ⟨N2, hN2⟩ : ∃ N, N = v2.n := ⟨_, rfl⟩
    obtain ⟨n2, hn2⟩ : ∃ n, n = v2.l.length := ⟨_, rfl⟩
    have hn6 : n ≤ 1000000 := by have h1 := VD.partsL_length v.l; have h2 := v.parts_mk; omega
    have hzz : ((⟨v.s.toArray⟩ : ByteArray).toList == (⟨v2.s.toArray⟩ : ByteArray).toList) = decide (v.s = v2.s) := by
      rw [ByteArray.toList_eq, ByteArray.toList_eq, Bool.eq_iff_iff]; simp
    obtain ⟨se, hse⟩ : ∃ se, se = decide (v.s = v2.s) := ⟨_, rfl⟩
    rw [← hse] at HSM hzz
    obtain ⟨z, hz⟩ : ∃ z : ByteArray, z = ⟨v.s.toArray⟩ := ⟨_, rfl⟩
    obtain ⟨z2, hz2⟩ : ∃ z : ByteArray, z = ⟨v2.s.toArray⟩ := ⟨_, rfl⟩
    rw [← hK, ← hK2, ← hNn, ← hN2] at HSM
    rw [← hK, ← hNn, ← hn, ← hz] at HA ⊢
    rw [← hK2, ← hN2, ← hn2, ← hz2] at HA2 ⊢
    rw [← hz, ← hz2] at hzz
    have hzn : (z.toList != z2.toList) = !se := by rw [bne, hzz]
    have HN := hide hn
    have HN2 := hide hn2
    obtain ⟨W1, hW1⟩ : ∃ W1, W1 = ((w.alloc (.cells #[.int .u8 ((K : Nat) : Int), .int .i64 N, .string z, .slice a n c] 24)).alloc (.cells #[.int .u8 ((K2 : Nat) : Int), .int .i64 N2, .string z2, .slice a2 n2 c2] 24)) := ⟨_, rfl⟩
    obtain ⟨W2, hW2⟩ : ∃ W2, W2 = W1.alloc (.cells #[.int .i64 ((d : Nat) : Int)] 3) := ⟨_, rfl⟩
    have hb0 : Below w.heap.size w (w.alloc (.cells #[.int .u8 ((K : Nat) : Int), .int .i64 N, .string z, .slice a n c] 24)) := (Below.refl _ w).alloc (Nat.le_refl _) _
    have hb1 : Below w.heap.size w W1 := by rw [hW1]; exact hb0.alloc hb0.size _
    have hb12 : Below W1.heap.size W1 W2 := by rw [hW2]; exact (Below.refl _ _).alloc (Nat.le_refl _) _
    have hb2 : Below w.heap.size w W2 := hb1.trans (hb12.mono hb1.size)
    have hs1 : W1.heap.size = w.heap.size + 2 := by rw [hW1]; simp
    have hr1 : W1.heap[w.heap.size]? = some (.cells #[.int .u8 ((K : Nat) : Int), .int .i64 N, .string z, .slice a n c] 24 (0, 0)) := by
      rw [hW1, ((Below.refl _ _).alloc (Nat.le_refl _) _ : Below _ (w.alloc (.cells #[.int .u8 ((K : Nat) : Int), .int .i64 N, .string z, .slice a n c] 24)) _).block _ (by simp)]
      exact heap_alloc_new w _
    have hr2 : W1.heap[w.heap.size + 1]? = some (.cells #[.int .u8 ((K2 : Nat) : Int), .int .i64 N2, .string z2, .slice a2 n2 c2] 24 (0, 0)) := by
      have h := heap_alloc_new (w.alloc (.cells #[.int .u8 ((K : Nat) : Int), .int .i64 N, .string z, .slice a n c] 24)) (.cells #[.int .u8 ((K2 : Nat) : Int), .int .i64 N2, .string z2, .slice a2 n2 c2] 24)
      rw [hW1]
      simpa using h
    have hr3 : W2.heap[w.heap.size + 2]? = some (.cells #[.int .i64 ((d : Nat) : Int)] 3 (0, 0)) := by
      have h := heap_alloc_new W1 (.cells #[.int .i64 ((d : Nat) : Int)] 3)
      rw [← hW2, hs1] at h
      exact h
    have kr1 := (hb12.block _ (lt_rowV hr1)).trans hr1
    have kr2 := (hb12.block _ (lt_rowV hr2)).trans hr2
    obtain ⟨⟨c0, c1, c2', c3⟩, -⟩ := cells4 kr1
    obtain ⟨⟨d0, d1, d2, d3⟩, -⟩ := cells4 kr2
    have g0 : W2.cell? ⟨w.heap.size + 2, 0, none⟩ = some (.int .i64 ((d : Nat) : Int)) := cell_of_row _ _ 0 _ _ _ hr3
    have HB2 := hide hb2
    rw [hW1] at hW2
    have HW2 := hide hW2
    have hd6 : d < 65536 := by have := v.deep_pos; omega
    have HEQ : Hid (∀ W, Below W2.heap.size W2 W → Calls Tryz.prog 75 #[.slice a n c, .slice a2 n2 c2, .func (.func 77) #[] #[.pointer (some ⟨w.heap.size + 2, 0, none⟩)]] W fun e w' => e = .returned (.bool (VD.sameL v.l v2.l)) ∧ Below W.heap.size W w') := fun W hW => by
      have hwW : Below w.heap.size w W := hb2.trans (hW.mono hb2.size)
      refine eqFunc_any B B2 (w.heap.size + 2) n n2 c c2 a a2 v.l v2.l W hn hn2 (((unhide HA).later hwW).elems) (((unhide HA2).later hwW).elems) hn6 fun W' hW' j h h2 u1 u2 h1 h3 => ?_
      have hg' : W'.cell? ⟨w.heap.size + 2, 0, none⟩ = some (.int .i64 ((d : Nat) : Int)) := ((hW.trans (hW'.mono hW.size)).cell (World.block_lt_of_cell? _ _ g0)).trans g0
      have hmem : v.l[j] ∈ v.l := List.getElem_mem h
      have h4 := VD.parts_lt hmem
      have h5 := VD.deep_mem hmem
      have h6 := v.deep_mk
      exact same1_any _ _ B B2 u1 u2 _ d W' h1 h3 hg' (by omega) fun W'' hW'' => ih _ hmem _ B B2 u1 u2 W'' (d + 1) (h1.later hW'') (h3.later hW'') (by omega) (by omega)
    have HWA : Hid (∀ W, Calls Tryz.prog 76 #[.agg #[.int .u8 ((K : Nat) : Int), .int .i64 N, .string z, .slice a n c], .int .i64 ((d : Nat) : Int)] W fun e w' => e = .returned (.slice a n c) ∧ Below W.heap.size W w') := fun W => within_any a c K n N z d hd6 W
    have HWB : Hid (∀ W, Calls Tryz.prog 76 #[.agg #[.int .u8 ((K2 : Nat) : Int), .int .i64 N2, .string z2, .slice a2 n2 c2], .int .i64 ((d : Nat) : Int)] W fun e w' => e = .returned (.slice a2 n2 c2) ∧ Below W.heap.size W w') := fun W => within_any a2 c2 K2 n2 N2 z2 d hd6 W
    clear hA hA2 hm hd ih hn hn2 hK hK2 hNn hN2 hz hz2 hse hb0 hb1 hb12 hb2 hs1 hr1 hr2 hr3 kr1 kr2 hW1 hW2 HN HN2 HA HA2
    go_enter Tryz.func50, Tryz.ntmps50
    go_upto_region 1 with fail
    rw [← unhide HW2]
    clear HW2
    by_cases hk : K = K2
    case neg =>
      have gk : (((K : Nat) : Int) == ((K2 : Nat) : Int)) = false := by rw [beq_eq_false_iff_ne]; omega
      have gk2 : (((K : Nat) : Int) != ((K2 : Nat) : Int)) = true := by rw [bne, gk]; rfl
      have gk3 : (K == K2) = false := beq_eq_false_iff_ne.2 hk
      have gk4 : (K != K2) = true := by rw [bne, gk3]; rfl
      have HD : Hid (v.same v2 = false) := by show _ = _; rw [unhide HSM, decide_eq_false hk]; simp
      clear hk
      go_wp2_with fail
      go_ret
      exact ⟨ret_bool (unhide HD).symm, unhide HB2⟩
    have gk : (((K : Nat) : Int) == ((K2 : Nat) : Int)) = true := by rw [beq_iff_eq]; omega
    have gk2 : (((K : Nat) : Int) != ((K2 : Nat) : Int)) = false := by rw [bne, gk]; rfl
    have gk3 : (K == K2) = true := beq_iff_eq.2 hk
    have gk4 : (K != K2) = false := by rw [bne, gk3]; rfl
    have HKK := hide hk
    clear hk
    by_cases hn : N = N2
    case neg =>
      have gn : (N == N2) = false := beq_eq_false_iff_ne.2 hn
      have gn2 : (N != N2) = true := by rw [bne, gn]; rfl
      have HD : Hid (v.same v2 = false) := by show _ = _; rw [unhide HSM, decide_eq_false hn]; simp
      clear hn
      go_wp2_with fail
      go_ret
      exact ⟨ret_bool (unhide HD).symm, unhide HB2⟩
    have gn : (N == N2) = true := beq_iff_eq.2 hn
    have gn2 : (N != N2) = false := by rw [bne, gn]; rfl
    have HNE := hide hn
    clear hn
    cases se with
    | false =>
      have hzn : (z.toList != z2.toList) = true := hzn
      have HD : Hid (v.same v2 = false) := by show _ = _; rw [unhide HSM]; simp
      go_wp2_with fail
      go_ret
      exact ⟨ret_bool (unhide HD).symm, unhide HB2⟩
    | true =>
      have hzn : (z.toList != z2.toList) = false := hzn
      have HSM2 : Hid (v.same v2 = VD.sameL v.l v2.l) := by show _ = _; rw [unhide HSM, decide_eq_true (unhide HKK), decide_eq_true (unhide HNE)]; simp
      generalize VD.sameL v.l v2.l = p at *
      go_upto_region 3 with fail
      clear hzz hzn gk gk2 gk3 gk4 gn gn2 HSM
      have lx0 := Later.cell c0
      have lx1 := Later.cell c1
      have lx2 := Later.cell c2'
      have lx3 := Later.cell c3
      have ly0 := Later.cell d0
      have ly1 := Later.cell d1
      have ly2 := Later.cell d2
      have ly3 := Later.cell d3
      have lg := Later.cell g0
      have hne : Nonempty (Later W2) := ⟨⟨W2, Below.refl _ _⟩⟩
      have hmf : ∀ (fn : Fn) (first cap : Array Value) (w : World), (Instr.makeFunc fn first cap).run Tryz.prog w = .ok (.func fn first cap) w := fun _ _ _ _ => rfl
      clear c0 c1 c2' c3 d0 d1 d2 d3 g0
      refine wp_region_later (by kernel_rfl) ?_
      repeat (go_big_quiet_step ((rename_i q; first
        | (go_at_call_of 76 (Value.slice a n c); refine (unhide HWA _).mono ?_; rintro e w11 ⟨rfl, hb11⟩; exact ⟨rfl, q.then hb11⟩)
        | (go_at_call_of 76 (Value.slice a2 n2 c2); refine (unhide HWB _).mono ?_; rintro e w11 ⟨rfl, hb11⟩; exact ⟨rfl, q.then hb11⟩)
        | (go_at_call 75; refine (unhide HEQ _ q.2).mono ?_; rintro e w11 ⟨rfl, hb11⟩; exact ⟨rfl, q.then hb11⟩))))
      refine wpQuiet_nil ?_
      rintro _ ⟨q, rfl⟩
      have HFIN : Hid (Below W2.heap.size W2 q.1) := q.2
      generalize q.1 = W20 at *
      go_wp2_with fail
      go_ret
      exact ⟨ret_bool (unhide HSM2).symm, (unhide HB2).trans ((unhide HFIN).mono (unhide HB2).size)⟩

set_option maxRecDepth 100000 in
set_option maxHeartbeats 2000000 in
theorem same_any (v v2 : VD) (B B2 : Nat → Prop) (u u2 : Value) (w : World) (hA : v.At B w u) (hA2 : v2.At B2 w u2) (hm : v.parts ≤ 1000000) (hd : v.deep ≤ 1000) : Calls Tryz.prog 28 #[u, u2] w fun e w' => e = .returned (.bool (v.same v2)) ∧ Below w.heap.size w w' := by
  have HS : Hid (∀ W, Below w.heap.size w W → Calls Tryz.prog 50 #[u, u2, .int .i64 1] W fun e w' => e = .returned (.bool (v.same v2)) ∧ Below W.heap.size W w') := fun W hW => sameAt_any v v2 B B2 u u2 W 1 (hA.later hW) (hA2.later hW) hm (by omega)
  obtain ⟨a, c, rfl, -, -⟩ := hA.box
  obtain ⟨a2, c2, rfl, -, -⟩ := hA2.box
  obtain ⟨n, hn⟩ : ∃ n, n = v.l.length := ⟨_, rfl⟩
  obtain ⟨K, hK⟩ : ∃ K, K = v.k := ⟨_, rfl⟩
  obtain ⟨N, hN⟩ : ∃ N, N = v.n := ⟨_, rfl⟩
  obtain ⟨z, hz⟩ : ∃ z : ByteArray, z = ⟨v.s.toArray⟩ := ⟨_, rfl⟩
  obtain ⟨n2, hn2⟩ : ∃ n, n = v2.l.length := ⟨_, rfl⟩
  obtain ⟨K2, hK2⟩ : ∃ K, K = v2.k := ⟨_, rfl⟩
  obtain ⟨N2, hN2⟩ : ∃ N, N = v2.n := ⟨_, rfl⟩
  obtain ⟨z2, hz2⟩ : ∃ z : ByteArray, z = ⟨v2.s.toArray⟩ := ⟨_, rfl⟩
  rw [← hn, ← hK, ← hN, ← hz, ← hn2, ← hK2, ← hN2, ← hz2] at HS ⊢
  obtain ⟨W1, hW1⟩ : ∃ W1, W1 = (w.alloc (.cells #[.int .u8 ((K : Nat) : Int), .int .i64 N, .string z, .slice a n c] 24)).alloc (.cells #[.int .u8 ((K2 : Nat) : Int), .int .i64 N2, .string z2, .slice a2 n2 c2] 24) := ⟨_, rfl⟩
  have hb0 : Below w.heap.size w (w.alloc (.cells #[.int .u8 ((K : Nat) : Int), .int .i64 N, .string z, .slice a n c] 24)) := (Below.refl _ w).alloc (Nat.le_refl _) _
  have hb1 : Below w.heap.size w W1 := by rw [hW1]; exact hb0.alloc hb0.size _
  have hr1 : W1.heap[w.heap.size]? = some (.cells #[.int .u8 ((K : Nat) : Int), .int .i64 N, .string z, .slice a n c] 24 (0, 0)) := by
    rw [hW1, ((Below.refl _ _).alloc (Nat.le_refl _) _ : Below _ (w.alloc (.cells #[.int .u8 ((K : Nat) : Int), .int .i64 N, .string z, .slice a n c] 24)) _).block _ (by simp)]
    exact heap_alloc_new w _
  have hr2 : W1.heap[w.heap.size + 1]? = some (.cells #[.int .u8 ((K2 : Nat) : Int), .int .i64 N2, .string z2, .slice a2 n2 c2] 24 (0, 0)) := by
    have h := heap_alloc_new (w.alloc (.cells #[.int .u8 ((K : Nat) : Int), .int .i64 N, .string z, .slice a n c] 24)) (.cells #[.int .u8 ((K2 : Nat) : Int), .int .i64 N2, .string z2, .slice a2 n2 c2] 24)
    rw [hW1]
    simpa using h
  obtain ⟨⟨c0, c1, c2', c3⟩, -⟩ := cells4 hr1
  obtain ⟨⟨d0, d1, d2, d3⟩, -⟩ := cells4 hr2
  have HC := hide (unhide HS W1 hb1)
  have HB1 := hide hb1
  have HW1 := hide hW1
  generalize v.same v2 = p at *
  clear hA hA2 hm hd hn hK hN hz hn2 hK2 hN2 hz2 hb0 hb1 hr1 hr2 hW1 HS
  go_enter Tryz.func28, Tryz.ntmps28
  go_upto_region 1 with fail
  rw [← unhide HW1]
  clear HW1
  go_wp2_with fail
  refine (unhide HC).mono ?_
  rintro e W6 ⟨rfl, hb6⟩
  have HB6 := hide ((unhide HB1).trans (hb6.mono (unhide HB1).size))
  clear hb6 c0 c1 c2' c3 d0 d1 d2 d3
  go_wp2_with fail
  go_ret
  exact ⟨rfl, unhide HB6⟩
end Go.Proofs.YtdlbpbglidhlfaaGreatDoor

namespace Go.Proofs.YtdlbpbglidhlfaaGreatDoor
open Go.RowKit

/-- What rightAt tells. -/
def RAt (w0 : World) (g : Nat) (v : VD) (d c : Nat) (e : Ending) (W : World) : Prop :=
  ∃ b : Bool, e = .returned (.bool b) ∧ b = (v.kinds && decide (d + v.deep ≤ 7) && decide (c + v.parts ≤ 200)) ∧ Below w0.heap.size w0 W ∧
    (b = true → W.cell? ⟨g, 0, none⟩ = some (.int .i64 ((c + v.parts : Nat) : Int))) ∧ W.frozen? ⟨g, 0, none⟩ = false
theorem frozen_lt {W : World} {p : Addr} {x : Value} (h : W.cell? p = some x) : p.block < W.heap.size := World.block_lt_of_cell? _ _ h
theorem frozen_keeps {W W' : World} {g : Nat} {x : Value} (h : W.cell? ⟨g, 0, none⟩ = some x) (hf : W.frozen? ⟨g, 0, none⟩ = false) (hb : Below W.heap.size W W') : W'.frozen? ⟨g, 0, none⟩ = false := by
  rw [← hf]
  exact World.frozen?_of_block (a := ⟨g, 0, none⟩) (hb.block g (World.block_lt_of_cell? _ _ h))

set_option maxRecDepth 100000 in
set_option maxHeartbeats 4000000 in
theorem rightAt_any (v : VD) : ∀ (B : Nat → Prop) (u : Value) (w0 w : World) (g d c : Nat), v.At B w0 u → Below w0.heap.size w0 w → w0.heap.size ≤ g → w.cell? ⟨g, 0, none⟩ = some (.int .i64 ((c : Nat) : Int)) → w.frozen? ⟨g, 0, none⟩ = false → d ≤ 7 → c ≤ 1000 →
    Calls Tryz.prog 72 #[u, .int .i64 ((d : Nat) : Int), .pointer (some ⟨g, 0, none⟩)] w (RAt w0 g v d c) := by
  induction v using VD.induct with
  | h v ih =>
    intro B u w0 w g d c hA hb0 hg hc hf hd hc1
    have HA0 := hide hA
    obtain ⟨a, cp, rfl, hlc, hbox⟩ := (hA.later hb0).box
    have HEL := hide hA.elems
    obtain ⟨n, hn⟩ : ∃ n, n = v.l.length := ⟨_, rfl⟩
    obtain ⟨K, hK⟩ : ∃ K, K = v.k := ⟨_, rfl⟩
    obtain ⟨N, hN⟩ : ∃ N, N = v.n := ⟨_, rfl⟩
    obtain ⟨z, hz⟩ : ∃ z : ByteArray, z = ⟨v.s.toArray⟩ := ⟨_, rfl⟩
    rw [← hn, ← hK, ← hN, ← hz] at HA0 ⊢
    rw [← hn] at hlc
    have HN := hide hn
    obtain ⟨W1, hW1⟩ : ∃ W1, W1 = w.alloc (.cells #[.int .u8 ((K : Nat) : Int), .int .i64 N, .string z, .slice a n cp] 24) := ⟨_, rfl⟩
    have hb1 : Below w.heap.size w W1 := by rw [hW1]; exact (Below.refl _ w).alloc (Nat.le_refl _) _
    have hr1 : W1.heap[w.heap.size]? = some (.cells #[.int .u8 ((K : Nat) : Int), .int .i64 N, .string z, .slice a n cp] 24 (0, 0)) := by rw [hW1]; exact heap_alloc_new w _
    have hgw : g < w.heap.size := World.block_lt_of_cell? _ _ hc
    have hp1 : W1.cell? ⟨g, 0, none⟩ = some (.int .i64 ((c : Nat) : Int)) := (hb1.cell hgw).trans hc
    have hf1 : W1.frozen? ⟨g, 0, none⟩ = false := frozen_keeps hc hf hb1
    obtain ⟨C, hC⟩ : ∃ C, C = c + 1 := ⟨_, rfl⟩
    have hCi : ((c : Nat) : Int) + 1 = ((C : Nat) : Int) := by omega
    have HCC := hide hC
    obtain ⟨W2, hW2⟩ : ∃ W2, W2 = W1.setCell ⟨g, 0, none⟩ (.int .i64 ((C : Nat) : Int)) := ⟨_, rfl⟩
    have hb01 : Below w0.heap.size w0 W1 := hb0.trans (hb1.mono hb0.size)
    have hb2 : Below w0.heap.size w0 W2 := by rw [hW2]; exact hb01.setCell (p := ⟨g, 0, none⟩) hg _
    have hr2 : W2.heap[w.heap.size]? = some (.cells #[.int .u8 ((K : Nat) : Int), .int .i64 N, .string z, .slice a n cp] 24 (0, 0)) := by rw [hW2, Below.heap_setCell _ _ _ _ (by show w.heap.size ≠ g; omega)]; exact hr1
    have hp2 : W2.cell? ⟨g, 0, none⟩ = some (.int .i64 ((C : Nat) : Int)) := by rw [hW2]; exact World.cell?_setCell_same _ _ _ hp1
    have hf2 : W2.frozen? ⟨g, 0, none⟩ = false := by rw [hW2]; simpa using hf1
    have HW1 := hide hW1
    have HW2 := hide hW2
    have HB2 := hide hb2
    have HG := hide hg
    have HIH := hide ih
    have HF2 := hide hf2
    have HR2 := hide hr2
    have HPM := hide v.parts_mk
    have HDM := hide v.deep_mk
    have HKA := hide v.kinds_alone
    have HDP := hide v.deep_pos
    clear hA hb0 hbox hK hN hz hn hb1 hr1 hc hf hW1 hW2 hb01 hb2 ih hg hgw hC
    go_enter Tryz.func72, Tryz.ntmps72
    go_upto_region 1 with fail
    rw [← unhide HW1]
    clear HW1
    go_upto_region 2 with fail
    rw [← unhide HW2]
    clear HW2 hp1 hf1
    go_wp2_with fail
    refine (mayBe_any d C _).mono ?_
    rintro e w' ⟨rfl, hw⟩
    rw [hw]
    clear hw w'
    by_cases hmay : d ≤ 6 ∧ C ≤ 200
    case neg =>
      rw [show (decide (d ≤ 6) && decide (C ≤ 200)) = false by rw [Bool.and_eq_false_iff]; simp; omega]
      have HV : Hid ((v.kinds && decide (d + v.deep ≤ 7) && decide (c + v.parts ≤ 200)) = false) := by
        show _ = _
        by_cases h6 : d ≤ 6
        · have : ¬ (c + v.parts ≤ 200) := by have := unhide HCC; have := unhide HPM; have : ¬ C ≤ 200 := fun h => hmay ⟨h6, h⟩; omega
          rw [decide_eq_false this]; simp
        · have : ¬ (d + v.deep ≤ 7) := by have := unhide HDP; omega
          rw [decide_eq_false this]; simp
      clear hmay
      go_wp2_with fail
      go_ret
      exact ⟨false, rfl, (unhide HV).symm, unhide HB2, fun h => (by cases h), unhide HF2⟩
    case pos =>
      rw [show (decide (d ≤ 6) && decide (C ≤ 200)) = true by rw [decide_eq_true hmay.1, decide_eq_true hmay.2]; rfl]
      obtain ⟨hd6, hC2⟩ := hmay
      obtain ⟨⟨c0, c1, c2, c3⟩, _⟩ := cells4 (unhide HR2)
      go_wp2_with fail
      refine (alone_any v B _ W2 ((unhide HA0).later (unhide HB2))).mono ?_
      rintro e W3 ⟨rfl, hb3⟩
      have HB3 := hide ((unhide HB2).trans (hb3.mono (unhide HB2).size))
      have hp3 : W3.cell? ⟨g, 0, none⟩ = some (.int .i64 ((C : Nat) : Int)) := (hb3.cell (World.block_lt_of_cell? _ _ hp2)).trans hp2
      have HF3 := hide (frozen_keeps hp2 (unhide HF2) hb3)
      have d3 := (hb3.cell (World.block_lt_of_cell? _ _ c3)).trans c3
      obtain ⟨al, hal⟩ : ∃ al, al = v.alone := ⟨_, rfl⟩
      rw [← hal]
      have HAL := hide hal
      clear hb3 c0 c1 c2 c3 hal hp2 HF2 HR2 hf2
      cases al with
      | false =>
        have HV : Hid ((v.kinds && decide (d + v.deep ≤ 7) && decide (c + v.parts ≤ 200)) = false) := by
          show _ = _
          rw [unhide HKA, ← unhide HAL]; rfl
        go_wp2_with fail
        go_ret
        exact ⟨false, rfl, (unhide HV).symm, unhide HB3, fun h => (by cases h), unhide HF3⟩
      | true =>
        have hn40 : n ≤ 40 := by
          have h := (unhide HAL).symm
          rw [VD.alone] at h
          simp only [Bool.or_eq_true, Bool.and_eq_true, decide_eq_true_eq, List.isEmpty_iff] at h
          have := unhide HN
          rcases h with (⟨_, _, h⟩ | ⟨_, _, h⟩) | ⟨_, ⟨h, _⟩, _⟩
          · rw [h] at this; simp at this; omega
          · rw [h] at this; simp at this; omega
          · omega
        have HKD : Hid (v.kinds = VD.kindsL v.l) := by show _ = _; rw [unhide HKA, ← unhide HAL]; rfl
        clear HKA HAL
        go_wp2
        go_loopw [28] (fun k W => ∃ (j P : Nat), j ≤ n ∧ k = .int .i64 ((j : Nat) : Int) ∧ VD.kindsL (v.l.take j) = true ∧ d + 1 + VD.deepL (v.l.take j) ≤ 7 ∧ P = C + VD.partsL (v.l.take j) ∧ P ≤ 200 ∧ Below w0.heap.size w0 W ∧ W.cell? ⟨g, 0, none⟩ = some (.int .i64 ((P : Nat) : Int)) ∧ W.frozen? ⟨g, 0, none⟩ = false) (fun k _ => n - (intOf k).toNat)
        case atStart => exact ⟨0, C, by omega, rfl, rfl, by simp [VD.deepL]; omega, by simp [VD.partsL], hC2, unhide HB3, hp3, unhide HF3⟩
        case round =>
          obtain ⟨j, P, hj, rfl, hkt, hdt, hP, hP2, hb, hp, hfz⟩ := hrel
          have HB := hide hb
          have HKT := hide hkt
          have HDT := hide hdt
          have HPP := hide hP
          have HFZ := hide hfz
          clear hkt hdt hP hfz
          by_cases hlt : j < n
          · have hji : ((j : Nat) : Int) < ((n : Nat) : Int) := by omega
            have hjl : j < v.l.length := by have := unhide HN; omega
            obtain ⟨b, o, eK, el, ec, eN, ez, ea, rfl, _, x0, x1, x2, x3, he⟩ := (unhide HEL j hjl).out
            have hk : ∀ {p : Addr} {x : Value}, w0.cell? p = some x → wr.cell? p = some x := fun hx => (hb.cell (World.block_lt_of_cell? _ _ hx)).trans hx
            have y0 := hk x0
            have y1 := hk x1
            have y2 := hk x2
            have y3 := hk x3
            have hmem : v.l[j] ∈ v.l := List.getElem_mem hjl
            obtain ⟨W4, hW4⟩ : ∃ W4, W4 = wr.alloc (.cells #[.int .u8 ((eK : Nat) : Int), .int .i64 eN, .string ez, .slice ea el ec] 24) := ⟨_, rfl⟩
            have hb4 : Below wr.heap.size wr W4 := by rw [hW4]; exact (Below.refl _ _).alloc (Nat.le_refl _) _
            have hr4 : W4.heap[wr.heap.size]? = some (.cells #[.int .u8 ((eK : Nat) : Int), .int .i64 eN, .string ez, .slice ea el ec] 24 (0, 0)) := by rw [hW4]; exact heap_alloc_new wr _
            obtain ⟨⟨i0, i1, i2, i3⟩, _⟩ := cells4 hr4
            obtain ⟨D, hD⟩ : ∃ D, D = d + 1 := ⟨_, rfl⟩
            have hDi : ((d : Nat) : Int) + 1 = ((D : Nat) : Int) := by omega
            have HC : Hid (Calls Tryz.prog 72 #[.agg #[.int .u8 ((eK : Nat) : Int), .int .i64 eN, .string ez, .slice ea el ec], .int .i64 ((D : Nat) : Int), .pointer (some ⟨g, 0, none⟩)] W4 (RAt w0 g (v.l[j]) D P)) := unhide HIH _ hmem B _ w0 W4 g D P he (hb.trans (hb4.mono hb.size)) (unhide HG) ((hb4.cell (World.block_lt_of_cell? _ _ hp)).trans hp) (frozen_keeps hp (unhide HFZ) hb4) (by omega) (by omega)
            have HT : Hid (VD.partsL (v.l.take (j + 1)) = VD.partsL (v.l.take j) + (v.l[j]).parts) := by
              show _ = _
              rw [List.take_succ_eq_append_getElem hjl, VD.partsL_append]
              simp [VD.partsL]
            have HTD : Hid (VD.deepL (v.l.take (j + 1)) = Nat.max (VD.deepL (v.l.take j)) (v.l[j]).deep) := by
              show _ = _
              rw [List.take_succ_eq_append_getElem hjl, VD.deepL_append]
              simp [VD.deepL]
            have HTS := hide (VD.kindsL_take_succ hjl)
            have HFL := hide (VD.kindsL_false (l := v.l) hjl)
            have HLP := hide (VD.partsL_take v.l (j + 1))
            have HDD := hide (VD.deep_mem hmem)
            have HW4 := hide hW4
            have HDE := hide hD
            clear hW4 hb4 hr4 x0 x1 x2 x3 he hk hmem hb hp hD
            go_upto_region 7 with fail
            rw [← unhide HW4]
            clear HW4 y0 y1 y2 y3
            go_wp2_with fail
            refine (unhide HC).mono ?_
            rintro e W5 ⟨q, rfl, hq, hb5, hp5, hf5⟩
            have HB5 := hide hb5
            have HQ := hide hq
            have HF5 := hide hf5
            clear hb5 hq hf5 i0 i1 i2 i3
            cases q with
            | false =>
              have HV : Hid ((v.kinds && decide (d + v.deep ≤ 7) && decide (c + v.parts ≤ 200)) = false) := by
                show _ = _
                have hq := unhide HQ
                rw [Bool.eq_false_iff]
                intro h
                simp only [Bool.and_eq_true, decide_eq_true_eq] at h
                obtain ⟨⟨h1, h2⟩, h3⟩ := h
                rw [unhide HKD] at h1
                have k1 : (v.l[j]).kinds = true := by
                  rcases hh : (v.l[j]).kinds with _ | _
                  · rw [unhide HFL hh] at h1; cases h1
                  · rfl
                have k2 : D + (v.l[j]).deep ≤ 7 := by have := unhide HDE; have := unhide HDM; have := unhide HDD; omega
                have k3 : P + (v.l[j]).parts ≤ 200 := by have := unhide HPP; have := unhide HT; have := unhide HLP; have := unhide HPM; have := unhide HCC; omega
                rw [k1, decide_eq_true k2, decide_eq_true k3] at hq
                cases hq
              go_wp2_with fail
              go_ret
              exact ⟨false, rfl, (unhide HV).symm, unhide HB5, fun h => (by cases h), unhide HF5⟩
            | true =>
              have hq := unhide HQ
              symm at hq
              simp only [Bool.and_eq_true, decide_eq_true_eq] at hq
              obtain ⟨⟨k1, k2⟩, k3⟩ := hq
              have hp6 := hp5 rfl
              have HP6 := hide hp6
              have HK1 := hide k1
              have HK2 := hide k2
              have HK3 := hide k3
              clear hp6 k1 k2 k3 hp5
              go_wp2_with fail
              refine ⟨⟨j + 1, P + (v.l[j]).parts, by omega, by go_num, by rw [unhide HTS, unhide HKT, unhide HK1]; rfl, ?_, by have := unhide HPP; have := unhide HT; omega, unhide HK3, unhide HB5, unhide HP6, unhide HF5⟩, by simp [intOf]; omega⟩
              have h1 := unhide HTD
              have h2 := unhide HDT
              have h3 := unhide HK2
              have h4 := unhide HDE
              rw [h1]
              have h6 : Nat.max (VD.deepL (v.l.take j)) (v.l[j]).deep ≤ 6 - d := Nat.max_le.2 ⟨by omega, by omega⟩
              omega
          · have e : j = n := by omega
            have hji : ¬ ((j : Nat) : Int) < ((n : Nat) : Int) := by omega
            have HTK : Hid (v.l.take j = v.l) := List.take_of_length_le (by have := unhide HN; omega)
            have HPE : Hid (P = c + v.parts) := by show _ = _; have := unhide HPP; rw [unhide HTK] at this; have := unhide HPM; have := unhide HCC; omega
            have HP2 := hide hP2
            have HPC := hide hp
            have HV : Hid ((v.kinds && decide (d + v.deep ≤ 7) && decide (c + v.parts ≤ 200)) = true) := by
              show _ = _
              have h1 := unhide HKT
              have h2 := unhide HDT
              rw [unhide HTK] at h1 h2
              rw [unhide HKD, h1, decide_eq_true (by have := unhide HDM; omega), decide_eq_true (by have := unhide HPE; have := unhide HP2; omega)]
              rfl
            clear e hb hp hP2
            go_wp2
            go_ret
            exact ⟨true, rfl, (unhide HV).symm, unhide HB, fun _ => by rw [← unhide HPE]; exact unhide HPC, unhide HFZ⟩

set_option maxRecDepth 100000 in
set_option maxHeartbeats 2000000 in
theorem right_any (v : VD) (B : Nat → Prop) (u : Value) (w : World) (hA : v.At B w u) : Calls Tryz.prog 48 #[u] w fun e w' => e = .returned (.bool v.right) ∧ Below w.heap.size w w' := by
  have hA0 := hA
  obtain ⟨a, cp, rfl, hlc, hbox⟩ := hA.box
  obtain ⟨n, hn⟩ : ∃ n, n = v.l.length := ⟨_, rfl⟩
  obtain ⟨K, hK⟩ : ∃ K, K = v.k := ⟨_, rfl⟩
  obtain ⟨N, hN⟩ : ∃ N, N = v.n := ⟨_, rfl⟩
  obtain ⟨z, hz⟩ : ∃ z : ByteArray, z = ⟨v.s.toArray⟩ := ⟨_, rfl⟩
  rw [← hn, ← hK, ← hN, ← hz] at hA0 ⊢
  obtain ⟨W1, hW1⟩ : ∃ W1, W1 = (w.alloc (.cells #[.int .u8 ((K : Nat) : Int), .int .i64 N, .string z, .slice a n cp] 24)).alloc (.cells #[.int .i64 0] 3) := ⟨_, rfl⟩
  have hb1 : Below w.heap.size w (w.alloc (.cells #[.int .u8 ((K : Nat) : Int), .int .i64 N, .string z, .slice a n cp] 24)) := (Below.refl _ w).alloc (Nat.le_refl _) _
  have hb2 : Below w.heap.size w W1 := by rw [hW1]; exact hb1.alloc hb1.size _
  have hr1 : W1.heap[w.heap.size]? = some (.cells #[.int .u8 ((K : Nat) : Int), .int .i64 N, .string z, .slice a n cp] 24 (0, 0)) := by
    rw [hW1, ((Below.refl _ _).alloc (Nat.le_refl _) _ : Below _ (w.alloc (.cells #[.int .u8 ((K : Nat) : Int), .int .i64 N, .string z, .slice a n cp] 24)) _).block _ (by simp)]
    exact heap_alloc_new w _
  have hr2 : W1.heap[w.heap.size + 1]? = some (.cells #[.int .i64 0] 3 (0, 0)) := by
    have h := heap_alloc_new (w.alloc (.cells #[.int .u8 ((K : Nat) : Int), .int .i64 N, .string z, .slice a n cp] 24)) (.cells #[.int .i64 0] 3)
    rw [hW1]
    simpa using h
  have HC : Hid (Calls Tryz.prog 72 #[.agg #[.int .u8 ((K : Nat) : Int), .int .i64 N, .string z, .slice a n cp], .int .i64 1, .pointer (some ⟨w.heap.size + 1, 0, none⟩)] W1 (RAt w (w.heap.size + 1) v 1 0)) := rightAt_any v B _ w W1 (w.heap.size + 1) 1 0 hA0 hb2 (Nat.le_succ _) (cell_of_row _ _ 0 _ _ _ hr2) (frozen_of_row _ _ _ _ _ hr2) (by omega) (by omega)
  have HV : Hid ((v.kinds && decide (1 + v.deep ≤ 7) && decide (0 + v.parts ≤ 200)) = v.right) := by
    show _ = _
    rw [VD.right]
    have e1 : decide (1 + v.deep ≤ 7) = decide (v.deep ≤ 6) := by rw [decide_eq_decide]; omega
    rw [e1, Nat.zero_add]
  have HW1 := hide hW1
  obtain ⟨⟨c0, c1, c2, c3⟩, _⟩ := cells4 hr1
  clear hA hA0 hbox hn hK hN hz hW1 hb1 hb2 hr1 hr2
  go_enter Tryz.func48, Tryz.ntmps48
  go_upto_region 2 with fail
  rw [← unhide HW1]
  clear HW1
  go_wp2_with fail
  refine (unhide HC).mono ?_
  rintro e W5 ⟨q, rfl, hq, hb5, _, _⟩
  have HB5 := hide hb5
  have HQ := hide hq
  clear hb5 hq c0 c1 c2 c3
  go_wp2_with fail
  go_ret
  exact ⟨ret_bool ((unhide HQ).trans (unhide HV)), unhide HB5⟩
end Go.Proofs.YtdlbpbglidhlfaaGreatDoor

namespace Go.Proofs.YtdlbpbglidhlfaaGreatDoor
open Go.RowKit

theorem upTo_any (x m : Int) (w : World) : Calls Tryz.prog 100 #[.int .i64 x, .int .i64 m] w fun e w' => e = .returned (.bool (decide (0 ≤ x) && decide (x ≤ m))) ∧ w' = w := by
  by_cases h0 : 0 ≤ x
  · have p1 : x ≥ 0 := h0
    rw [decide_eq_true h0]
    by_cases h1 : x ≤ m
    · rw [decide_eq_true h1]
      go_enter Tryz.func100, Tryz.ntmps100
      go_wp2_with fail
      go_ret
      exact ⟨rfl, rfl⟩
    · rw [decide_eq_false h1]
      go_enter Tryz.func100, Tryz.ntmps100
      go_wp2_with fail
      go_ret
      exact ⟨rfl, rfl⟩
  · have p1 : ¬ x ≥ 0 := h0
    rw [decide_eq_false h0]
    go_enter Tryz.func100, Tryz.ntmps100
    go_wp2_with fail
    go_ret
    exact ⟨rfl, rfl⟩

set_option maxRecDepth 100000 in
set_option maxHeartbeats 2000000 in
theorem ofItsKind_any (x : FI) (B : Nat → Prop) (u : Value) (w : World) (h : x.At B w u) : Calls Tryz.prog 101 #[u] w fun e w' => e = .returned (.bool (x.kindOk nameB)) ∧ Below w.heap.size w w' := by
  obtain ⟨z, K, pa, pn, pc, zo, wd, qt, rfl⟩ := h.form
  have hp := h.parts
  obtain ⟨W1, hW1⟩ : ∃ W1, W1 = w.alloc (.cells #[.string z, .int .u8 ((K : Nat) : Int), .slice pa pn pc, .string zo, .int .i64 wd, .int .i64 qt] 62) := ⟨_, rfl⟩
  have hb1 : Below w.heap.size w W1 := by rw [hW1]; exact (Below.refl _ w).alloc (Nat.le_refl _) _
  have hr1 : W1.heap[w.heap.size]? = some (.cells #[.string z, .int .u8 ((K : Nat) : Int), .slice pa pn pc, .string zo, .int .i64 wd, .int .i64 qt] 62 (0, 0)) := by rw [hW1]; exact heap_alloc_new w _
  obtain ⟨c0, c1, c2, c3, c4, c5⟩ := cells6 hr1
  have HB1 := hide hb1
  have HW1 := hide hW1
  have HKV : Hid (x.kindOk nameB = ((decide (K = 0) && x.over.isEmpty && decide (wd = 0)) || (decide (K = 1) && nameB x.over && decide (0 ≤ wd) && decide (wd ≤ 40)))) := by show _ = _; rw [hp.kd, hp.wd]; rfl
  have hze := str_empty x.over
  rw [← hp.ov] at hze
  have HNM : Hid (∀ W, Calls Tryz.prog 98 #[.string zo] W fun e w' => e = .returned (.bool (nameB x.over)) ∧ w' = W) := fun W => by rw [hp.ov]; exact fName_any x.over W
  generalize x.over.isEmpty = oe at *
  generalize nameB x.over = on at *
  clear h hp hb1 hr1 hW1
  go_enter Tryz.func101, Tryz.ntmps101
  go_upto_region 1 with fail
  rw [← unhide HW1]
  clear HW1
  by_cases k0 : K = 0
  · have g0 : (((K : Nat) : Int) == 0) = true := by rw [beq_iff_eq]; omega
    have HV : Hid (x.kindOk nameB = (oe && decide (wd = 0))) := by show _ = _; rw [unhide HKV, k0]; simp
    clear k0 HKV
    cases oe with
    | false =>
      go_wp2_with fail
      go_ret
      exact ⟨ret_bool (unhide HV).symm, unhide HB1⟩
    | true =>
      by_cases hw0 : wd = 0
      · have gw : (wd == 0) = true := beq_iff_eq.2 hw0
        have HW0 := hide hw0
        clear hw0
        go_wp2_with fail
        go_ret
        exact ⟨ret_bool (by rw [unhide HV, decide_eq_true (unhide HW0)]; rfl), unhide HB1⟩
      · have gw : (wd == 0) = false := beq_eq_false_iff_ne.2 hw0
        have HW0 := hide hw0
        clear hw0
        go_wp2_with fail
        go_ret
        exact ⟨ret_bool (by rw [unhide HV, decide_eq_false (unhide HW0)]; rfl), unhide HB1⟩
  have g0 : (((K : Nat) : Int) == 0) = false := by rw [beq_eq_false_iff_ne]; omega
  clear hze
  by_cases k1 : K = 1
  · have g1 : (((K : Nat) : Int) == 1) = true := by rw [beq_iff_eq]; omega
    have HV : Hid (x.kindOk nameB = (on && (decide (0 ≤ wd) && decide (wd ≤ 40)))) := by show _ = _; rw [unhide HKV, k1]; simp [Bool.and_assoc]
    clear k0 k1 HKV
    go_wp2_with fail
    refine (unhide HNM _).mono ?_
    rintro e w2 ⟨rfl, hw⟩
    rw [hw]
    clear hw w2
    cases on with
    | false =>
      go_wp2_with fail
      go_ret
      exact ⟨ret_bool (unhide HV).symm, unhide HB1⟩
    | true =>
      go_wp2_with fail
      refine (upTo_any wd 40 _).mono ?_
      rintro e w2 ⟨rfl, hw⟩
      rw [hw]
      clear hw w2
      go_wp2_with fail
      go_ret
      exact ⟨ret_bool (unhide HV).symm, unhide HB1⟩
  · have g1 : (((K : Nat) : Int) == 1) = false := by rw [beq_eq_false_iff_ne]; omega
    have HV : Hid (x.kindOk nameB = false) := by show _ = _; rw [unhide HKV, decide_eq_false k0, decide_eq_false k1]; simp
    clear k0 k1 HKV
    go_wp2_with fail
    go_ret
    exact ⟨ret_bool (unhide HV).symm, unhide HB1⟩

/-- all[string]$1 over Name. -/
theorem allStr1_any (s : List UInt8) (g : Nat) (w : World) (hg : w.cell? ⟨g, 0, none⟩ = some (.func (.func 98) #[] #[])) : Calls Tryz.prog 121 #[.string ⟨s.toArray⟩, .pointer (some ⟨g, 0, none⟩)] w fun e w' => e = .returned (.bool (!nameB s)) ∧ w' = w := by
  have HN := hide (fName_any s)
  generalize (⟨s.toArray⟩ : ByteArray) = z at *
  generalize nameB s = b at *
  go_enter Tryz.func121, Tryz.ntmps121
  go_wp2_with fail
  refine (unhide HN _).mono ?_
  rintro e w2 ⟨rfl, hw⟩
  rw [hw]
  clear hw w2
  go_wp2_with fail
  go_ret
  exact ⟨rfl, rfl⟩

theorem allL_take_succ {α : Type} {p : α → Bool} {s : List α} {j : Nat} (h : j < s.length) : (s.take (j + 1)).all p = ((s.take j).all p && p (s[j]'h)) := by
  rw [List.take_succ_eq_append_getElem h, List.all_append]
  simp
theorem allL_false {α : Type} {p : α → Bool} {s : List α} {j : Nat} (h : j < s.length) (hp : p (s[j]'h) = false) : s.all p = false := by
  rw [Bool.eq_false_iff]
  intro e
  have := List.all_eq_true.1 e _ (List.getElem_mem h)
  rw [hp] at this
  cases this

set_option maxRecDepth 100000 in
set_option maxHeartbeats 2000000 in
theorem indexStr_any (l : List (List UInt8)) (B : Nat → Prop) (g n c : Nat) (a : Option Addr) (w : World) (hn : n = l.length) (hn6 : n ≤ 1000000) (hS : StrsAt B w a l) (hg : w.cell? ⟨g, 0, none⟩ = some (.func (.func 98) #[] #[])) :
    Calls Tryz.prog 123 #[.slice a n c, .func (.func 121) #[] #[.pointer (some ⟨g, 0, none⟩)]] w fun e w' => (∃ r : Int, e = .returned (.int .i64 r) ∧ decide (r ≥ 0) = !l.all nameB) ∧ w' = w := by
  have HN := hide hn
  have HS := hide hS
  have HG := hide hg
  clear hn hS hg
  go_enter Tryz.func123, Tryz.ntmps123
  go_wp2_with fail
  go_loopw [8] (fun k W => ∃ j : Nat, j ≤ n ∧ k = .int .i64 ((j : Nat) : Int) ∧ (l.take j).all nameB = true ∧ W = w) (fun k _ => n - (intOf k).toNat)
  case atStart => exact ⟨0, by omega, rfl, rfl, rfl⟩
  case round =>
    obtain ⟨j, hj, rfl, ha, hw⟩ := hrel
    rw [hw]
    clear hw
    have HA := hide ha
    clear ha
    by_cases hlt : j < n
    · have hji : ((j : Nat) : Int) < ((n : Nat) : Int) := by omega
      have hjl : j < l.length := by have := unhide HN; omega
      obtain ⟨b, o, rfl, _, hc, _⟩ := unhide HS j hjl
      have HTS := hide (allL_take_succ (p := nameB) hjl)
      have HTF := hide (allL_false (p := nameB) hjl)
      have HC := hide (allStr1_any l[j] g w (unhide HG))
      generalize (⟨l[j].toArray⟩ : ByteArray) = z at *
      generalize nameB l[j] = q at *
      go_wp2_with fail
      refine (unhide HC).mono ?_
      rintro e w2 ⟨rfl, hw⟩
      rw [hw]
      clear hw w2
      cases q with
      | false =>
        have HF := hide (unhide HTF rfl)
        go_wp2_with fail
        go_ret
        exact ⟨⟨_, rfl, by rw [unhide HF, decide_eq_true (show ((j : Nat) : Int) ≥ 0 by omega)]; rfl⟩, rfl⟩
      | true =>
        have HT : Hid ((l.take (j + 1)).all nameB = true) := by show _ = _; rw [unhide HTS, unhide HA]; rfl
        go_wp2_with fail
        exact ⟨⟨j + 1, by omega, by go_num, unhide HT, trivial⟩, by simp [intOf]; omega⟩
    · have e : j = n := by omega
      have hji : ¬ ((j : Nat) : Int) < ((n : Nat) : Int) := by omega
      have HF : Hid (l.all nameB = true) := by
        show _ = _
        have h := unhide HA
        rw [List.take_of_length_le (by have := unhide HN; omega)] at h
        exact h
      clear e
      go_wp2_with fail
      go_ret
      exact ⟨⟨-1, rfl, by rw [unhide HF]; rfl⟩, rfl⟩

set_option maxHeartbeats 1000000 in
theorem containsStr_any (l : List (List UInt8)) (B : Nat → Prop) (g n c : Nat) (a : Option Addr) (w : World) (hn : n = l.length) (hn6 : n ≤ 1000000) (hS : StrsAt B w a l) (hg : w.cell? ⟨g, 0, none⟩ = some (.func (.func 98) #[] #[])) :
    Calls Tryz.prog 120 #[.slice a n c, .func (.func 121) #[] #[.pointer (some ⟨g, 0, none⟩)]] w fun e w' => e = .returned (.bool (!l.all nameB)) ∧ w' = w := by
  have HC := hide (indexStr_any l B g n c a w hn hn6 hS hg)
  clear hn hS hg
  go_enter Tryz.func120, Tryz.ntmps120
  go_wp2_with fail
  refine (unhide HC).mono ?_
  rintro e w2 ⟨⟨r, rfl, hr⟩, hw⟩
  rw [hw]
  clear hw w2
  have HR := hide hr
  clear hr
  go_wp2_with fail
  go_ret
  exact ⟨ret_bool (unhide HR), rfl⟩

set_option maxHeartbeats 1000000 in
theorem allStr_any (l : List (List UInt8)) (B : Nat → Prop) (n c : Nat) (a : Option Addr) (w : World) (hn : n = l.length) (hn6 : n ≤ 1000000) (hS : StrsAt B w a l) :
    Calls Tryz.prog 99 #[.slice a n c, .func (.func 98) #[] #[]] w fun e w' => e = .returned (.bool (l.all nameB)) ∧ Below w.heap.size w w' := by
  obtain ⟨W1, hW1⟩ : ∃ W1, W1 = w.alloc (.cells #[.func (.func 98) #[] #[]] 34) := ⟨_, rfl⟩
  have hb1 : Below w.heap.size w W1 := by rw [hW1]; exact (Below.refl _ w).alloc (Nat.le_refl _) _
  have hr1 : W1.heap[w.heap.size]? = some (.cells #[.func (.func 98) #[] #[]] 34 (0, 0)) := by rw [hW1]; exact heap_alloc_new w _
  have HC := hide (containsStr_any l B w.heap.size n c a W1 hn hn6 (hS.kept (fun k _ hk => hb1.block k hk) (fun _ h _ => h)) (cell_of_row _ _ 0 _ _ _ hr1))
  have HB1 := hide hb1
  have HW1 := hide hW1
  clear hn hS hb1 hr1 hW1
  go_enter Tryz.func99, Tryz.ntmps99
  go_upto_region 1 with fail
  rw [← unhide HW1]
  clear HW1
  go_wp2_with fail
  refine (unhide HC).mono ?_
  rintro e w2 ⟨rfl, hw⟩
  rw [hw]
  clear hw w2
  go_wp2_with fail
  go_ret
  exact ⟨rfl, unhide HB1⟩
end Go.Proofs.YtdlbpbglidhlfaaGreatDoor

namespace Go.Proofs.YtdlbpbglidhlfaaGreatDoor
open Go.RowKit

theorem FI.right_parts (x : FI) : x.right = (nameB x.name && (decide (x.after.length ≤ 20) && (x.after.all nameB && ((decide (0 ≤ x.quota) && decide (x.quota ≤ 400)) && x.kindOk nameB)))) := by
  unfold FI.right FI.okP
  simp only [Bool.and_assoc]

set_option maxRecDepth 100000 in
set_option maxHeartbeats 2000000 in
theorem rightItem_any (x : FI) (B : Nat → Prop) (u : Value) (w : World) (h : x.At B w u) : Calls Tryz.prog 74 #[u] w fun e w' => e = .returned (.bool x.right) ∧ Below w.heap.size w w' := by
  have HA := hide h
  obtain ⟨z, K, pa, pn, pc, zo, wd, qt, rfl⟩ := h.form
  have hp := h.parts
  obtain ⟨W1, hW1⟩ : ∃ W1, W1 = w.alloc (.cells #[.string z, .int .u8 ((K : Nat) : Int), .slice pa pn pc, .string zo, .int .i64 wd, .int .i64 qt] 62) := ⟨_, rfl⟩
  have hb1 : Below w.heap.size w W1 := by rw [hW1]; exact (Below.refl _ w).alloc (Nat.le_refl _) _
  have hr1 : W1.heap[w.heap.size]? = some (.cells #[.string z, .int .u8 ((K : Nat) : Int), .slice pa pn pc, .string zo, .int .i64 wd, .int .i64 qt] 62 (0, 0)) := by rw [hW1]; exact heap_alloc_new w _
  have HK : Hid (∀ X, Below W1.heap.size W1 X → X.cell? ⟨w.heap.size, 0, none⟩ = some (.string z) ∧ X.cell? ⟨w.heap.size, 1, none⟩ = some (.int .u8 ((K : Nat) : Int)) ∧ X.cell? ⟨w.heap.size, 2, none⟩ = some (.slice pa pn pc) ∧ X.cell? ⟨w.heap.size, 3, none⟩ = some (.string zo) ∧ X.cell? ⟨w.heap.size, 4, none⟩ = some (.int .i64 wd) ∧ X.cell? ⟨w.heap.size, 5, none⟩ = some (.int .i64 qt)) := fun X hX => cells6 ((hX.block _ (Array.getElem?_eq_some_iff.1 hr1).1).trans hr1)
  have HB1 := hide hb1
  have HW1 := hide hW1
  have HV : Hid (x.right = (nameB x.name && (decide (pn ≤ 20) && (x.after.all nameB && ((decide (0 ≤ qt) && decide (qt ≤ 400)) && x.kindOk nameB))))) := by show _ = _; rw [FI.right_parts, hp.an, hp.qt]
  have HNM : Hid (∀ W, Calls Tryz.prog 98 #[.string z] W fun e w' => e = .returned (.bool (nameB x.name)) ∧ w' = W) := fun W => by rw [hp.nm]; exact fName_any x.name W
  have HAF : Hid (pn ≤ 20 → ∀ W, Below w.heap.size w W → Calls Tryz.prog 99 #[.slice pa pn pc, .func (.func 98) #[] #[]] W fun e w' => e = .returned (.bool (x.after.all nameB)) ∧ Below W.heap.size W w') := fun h20 W hW => allStr_any x.after B pn pc pa W hp.an (by omega) (hp.strs.kept (fun k _ hk => hW.block k hk) (fun _ h _ => h))
  obtain ⟨a0, a1, a2, a3, a4, a5⟩ := unhide HK W1 (Below.refl _ _)
  generalize nameB x.name = bn at *
  generalize x.after.all nameB = ba at *
  clear h hp hb1 hr1 hW1
  go_enter Tryz.func74, Tryz.ntmps74
  go_upto_region 1 with fail
  rw [← unhide HW1]
  clear HW1
  go_wp2_with fail
  refine (unhide HNM _).mono ?_
  rintro e w2 ⟨rfl, hw⟩
  rw [hw]
  clear hw w2
  cases bn with
  | false =>
    go_wp2_with fail
    go_ret
    exact ⟨ret_bool (unhide HV).symm, unhide HB1⟩
  | true =>
    by_cases h20 : pn ≤ 20
    case neg =>
      have g20 : ¬ ((pn : Nat) : Int) ≤ 20 := by omega
      have HV2 : Hid (x.right = false) := by show _ = _; rw [unhide HV, decide_eq_false h20]; simp
      clear h20
      go_wp2_with fail
      go_ret
      exact ⟨ret_bool (unhide HV2).symm, unhide HB1⟩
    have g20 : ((pn : Nat) : Int) ≤ 20 := by omega
    have HV2 : Hid (x.right = (ba && ((decide (0 ≤ qt) && decide (qt ≤ 400)) && x.kindOk nameB))) := by show _ = _; rw [unhide HV, decide_eq_true h20]; simp
    have HAF2 := hide (unhide HAF h20)
    clear h20 HV HAF
    go_wp2_with fail
    refine (unhide HAF2 _ (unhide HB1)).mono ?_
    rintro e w2 ⟨rfl, hb2⟩
    have HB2 := hide ((unhide HB1).trans (hb2.mono (unhide HB1).size))
    clear a0 a1 a2 a3 a4 a5
    obtain ⟨a0, a1, a2, a3, a4, a5⟩ := unhide HK w2 hb2
    clear hb2 HK
    cases ba with
    | false =>
      go_wp2_with fail
      go_ret
      exact ⟨ret_bool (unhide HV2).symm, unhide HB2⟩
    | true =>
      go_wp2_with fail
      refine (upTo_any qt 400 _).mono ?_
      rintro e w3 ⟨rfl, hw⟩
      rw [hw]
      clear hw w3
      generalize (decide (0 ≤ qt) && decide (qt ≤ 400)) = bq at *
      cases bq with
      | false =>
        go_wp2_with fail
        go_ret
        exact ⟨ret_bool (unhide HV2).symm, unhide HB2⟩
      | true =>
        go_wp2_with fail
        refine (ofItsKind_any x B _ _ ((unhide HA).later (unhide HB2))).mono ?_
        rintro e w4 ⟨rfl, hb4⟩
        have HB4 := hide ((unhide HB2).trans (hb4.mono (unhide HB2).size))
        clear hb4 a0 a1 a2 a3 a4 a5
        go_wp2_with fail
        go_ret
        exact ⟨ret_bool (unhide HV2).symm, unhide HB4⟩

set_option maxHeartbeats 1000000 in
/-- all[api.Item]$1 over rightItem. -/
theorem allItem1_any (x : FI) (B : Nat → Prop) (u : Value) (g : Nat) (w : World) (h : x.At B w u) (hg : w.cell? ⟨g, 0, none⟩ = some (.func (.func 74) #[] #[])) : Calls Tryz.prog 97 #[u, .pointer (some ⟨g, 0, none⟩)] w fun e w' => e = .returned (.bool (!x.right)) ∧ Below w.heap.size w w' := by
  have HA := hide h
  obtain ⟨z, K, pa, pn, pc, zo, wd, qt, rfl⟩ := h.form
  obtain ⟨W1, hW1⟩ : ∃ W1, W1 = w.alloc (.cells #[.string z, .int .u8 ((K : Nat) : Int), .slice pa pn pc, .string zo, .int .i64 wd, .int .i64 qt] 62) := ⟨_, rfl⟩
  have hb1 : Below w.heap.size w W1 := by rw [hW1]; exact (Below.refl _ w).alloc (Nat.le_refl _) _
  have hr1 : W1.heap[w.heap.size]? = some (.cells #[.string z, .int .u8 ((K : Nat) : Int), .slice pa pn pc, .string zo, .int .i64 wd, .int .i64 qt] 62 (0, 0)) := by rw [hW1]; exact heap_alloc_new w _
  obtain ⟨a0, a1, a2, a3, a4, a5⟩ := cells6 hr1
  have g0 := (hb1.cell (World.block_lt_of_cell? _ _ hg)).trans hg
  have HB1 := hide hb1
  have HW1 := hide hW1
  clear h hb1 hr1 hW1 hg
  go_enter Tryz.func97, Tryz.ntmps97
  go_upto_region 1 with fail
  rw [← unhide HW1]
  clear HW1
  go_wp2_with fail
  refine (rightItem_any x B _ _ ((unhide HA).later (unhide HB1))).mono ?_
  rintro e w4 ⟨rfl, hb4⟩
  have HB4 := hide ((unhide HB1).trans (hb4.mono (unhide HB1).size))
  clear hb4 a0 a1 a2 a3 a4 a5 g0
  go_wp2_with fail
  go_ret
  exact ⟨rfl, unhide HB4⟩

set_option maxRecDepth 100000 in
set_option maxHeartbeats 2000000 in
theorem indexItem_any (l : List FI) (B : Nat → Prop) (g n c : Nat) (a : Option Addr) (w : World) (hn : n = l.length) (hn6 : n ≤ 1000000) (hS : ItemsAt B w a l) (hg : w.cell? ⟨g, 0, none⟩ = some (.func (.func 74) #[] #[])) :
    Calls Tryz.prog 118 #[.slice a n c, .func (.func 97) #[] #[.pointer (some ⟨g, 0, none⟩)]] w fun e w' => (∃ r : Int, e = .returned (.int .i64 r) ∧ decide (r ≥ 0) = !l.all FI.right) ∧ Below w.heap.size w w' := by
  have HN := hide hn
  have HS := hide hS
  have HG : Hid (∀ X, Below w.heap.size w X → X.cell? ⟨g, 0, none⟩ = some (.func (.func 74) #[] #[])) := fun X hX => (hX.cell (World.block_lt_of_cell? _ _ hg)).trans hg
  clear hn hS hg
  go_enter Tryz.func118, Tryz.ntmps118
  go_wp2_with fail
  go_loopw [8] (fun k W => ∃ j : Nat, j ≤ n ∧ k = .int .i64 ((j : Nat) : Int) ∧ (l.take j).all FI.right = true ∧ Below w.heap.size w W) (fun k _ => n - (intOf k).toNat)
  case atStart => exact ⟨0, by omega, rfl, rfl, Below.refl _ _⟩
  case round =>
    obtain ⟨j, hj, rfl, ha, hb⟩ := hrel
    have HB := hide hb
    have HA := hide ha
    clear ha
    by_cases hlt : j < n
    · have hji : ((j : Nat) : Int) < ((n : Nat) : Int) := by omega
      have hjl : j < l.length := by have := unhide HN; omega
      obtain ⟨b, o, z, K, pa, pn, pc, zo, wd, qt, rfl, _, c0, c1, c2, c3, c4, c5, hx⟩ := (unhide HS j hjl).out
      have hk : ∀ {p : Addr} {x : Value}, w.cell? p = some x → wr.cell? p = some x := fun hx => (hb.cell (World.block_lt_of_cell? _ _ hx)).trans hx
      have d0 := hk c0
      have d1 := hk c1
      have d2 := hk c2
      have d3 := hk c3
      have d4 := hk c4
      have d5 := hk c5
      have HTS := hide (allL_take_succ (p := FI.right) hjl)
      have HTF := hide (allL_false (p := FI.right) hjl)
      have HC := hide (allItem1_any l[j] B _ g wr (hx.later hb) (unhide HG wr hb))
      generalize FI.right l[j] = q at *
      clear c0 c1 c2 c3 c4 c5 hx hk hb
      go_wp2_with fail
      refine (unhide HC).mono ?_
      rintro e w2 ⟨rfl, hb2⟩
      have HB2 := hide ((unhide HB).trans (hb2.mono (unhide HB).size))
      clear hb2 d0 d1 d2 d3 d4 d5
      cases q with
      | false =>
        have HF := hide (unhide HTF rfl)
        go_wp2_with fail
        go_ret
        exact ⟨⟨_, rfl, by rw [unhide HF, decide_eq_true (show ((j : Nat) : Int) ≥ 0 by omega)]; rfl⟩, unhide HB2⟩
      | true =>
        have HT : Hid ((l.take (j + 1)).all FI.right = true) := by show _ = _; rw [unhide HTS, unhide HA]; rfl
        go_wp2_with fail
        exact ⟨⟨j + 1, by omega, by go_num, unhide HT, unhide HB2⟩, by simp [intOf]; omega⟩
    · have e : j = n := by omega
      have hji : ¬ ((j : Nat) : Int) < ((n : Nat) : Int) := by omega
      have HF : Hid (l.all FI.right = true) := by
        show _ = _
        have h := unhide HA
        rw [List.take_of_length_le (by have := unhide HN; omega)] at h
        exact h
      clear e hb
      go_wp2_with fail
      go_ret
      exact ⟨⟨-1, rfl, by rw [unhide HF]; rfl⟩, unhide HB⟩

set_option maxHeartbeats 1000000 in
theorem containsItem_any (l : List FI) (B : Nat → Prop) (g n c : Nat) (a : Option Addr) (w : World) (hn : n = l.length) (hn6 : n ≤ 1000000) (hS : ItemsAt B w a l) (hg : w.cell? ⟨g, 0, none⟩ = some (.func (.func 74) #[] #[])) :
    Calls Tryz.prog 96 #[.slice a n c, .func (.func 97) #[] #[.pointer (some ⟨g, 0, none⟩)]] w fun e w' => e = .returned (.bool (!l.all FI.right)) ∧ Below w.heap.size w w' := by
  have HC := hide (indexItem_any l B g n c a w hn hn6 hS hg)
  clear hn hS hg
  go_enter Tryz.func96, Tryz.ntmps96
  go_wp2_with fail
  refine (unhide HC).mono ?_
  rintro e w2 ⟨⟨r, rfl, hr⟩, hb⟩
  have HB := hide hb
  have HR := hide hr
  clear hr hb
  go_wp2_with fail
  go_ret
  exact ⟨ret_bool (unhide HR), unhide HB⟩

set_option maxHeartbeats 1000000 in
theorem allItem_any (l : List FI) (B : Nat → Prop) (n c : Nat) (a : Option Addr) (w : World) (hn : n = l.length) (hn6 : n ≤ 1000000) (hS : ItemsAt B w a l) :
    Calls Tryz.prog 73 #[.slice a n c, .func (.func 74) #[] #[]] w fun e w' => e = .returned (.bool (l.all FI.right)) ∧ Below w.heap.size w w' := by
  obtain ⟨W1, hW1⟩ : ∃ W1, W1 = w.alloc (.cells #[.func (.func 74) #[] #[]] 63) := ⟨_, rfl⟩
  have hb1 : Below w.heap.size w W1 := by rw [hW1]; exact (Below.refl _ w).alloc (Nat.le_refl _) _
  have hr1 : W1.heap[w.heap.size]? = some (.cells #[.func (.func 74) #[] #[]] 63 (0, 0)) := by rw [hW1]; exact heap_alloc_new w _
  have HC := hide (containsItem_any l B w.heap.size n c a W1 hn hn6 (hS.later hb1) (cell_of_row _ _ 0 _ _ _ hr1))
  have HB1 := hide hb1
  have HW1 := hide hW1
  clear hn hS hb1 hr1 hW1
  go_enter Tryz.func73, Tryz.ntmps73
  go_upto_region 1 with fail
  rw [← unhide HW1]
  clear HW1
  go_wp2_with fail
  refine (unhide HC).mono ?_
  rintro e w2 ⟨rfl, hb2⟩
  have HB2 := hide ((unhide HB1).trans (hb2.mono (unhide HB1).size))
  clear hb2
  go_wp2_with fail
  go_ret
  exact ⟨rfl, unhide HB2⟩

set_option maxHeartbeats 1000000 in
theorem fRight_any (l : List FI) (B : Nat → Prop) (u : Value) (w : World) (h : FragAt B w l u) : Calls Tryz.prog 49 #[u] w fun e w' => e = .returned (.bool (rightF l)) ∧ Below w.heap.size w w' := by
  obtain ⟨a, c, rfl, hlc, hcm, hS⟩ := h
  obtain ⟨n, hn⟩ : ∃ n, n = l.length := ⟨_, rfl⟩
  rw [← hn]
  have HV : Hid (rightF l = (decide (n ≤ 40) && l.all FI.right)) := by show _ = _; rw [hn]; rfl
  by_cases h40 : n ≤ 40
  · have g40 : ((n : Nat) : Int) ≤ 40 := by omega
    have HC := hide (allItem_any l B n c a w hn (by omega) hS)
    rw [decide_eq_true h40] at HV
    clear hn hS hlc h40
    go_enter Tryz.func49, Tryz.ntmps49
    go_wp2_with fail
    refine (unhide HC).mono ?_
    rintro e w2 ⟨rfl, hb2⟩
    have HB2 := hide hb2
    clear hb2
    go_wp2_with fail
    go_ret
    exact ⟨ret_bool (unhide HV).symm, unhide HB2⟩
  · have g40 : ¬ ((n : Nat) : Int) ≤ 40 := by omega
    rw [decide_eq_false h40] at HV
    have HB := hide (Below.refl w.heap.size w)
    clear hn hS hlc h40
    go_enter Tryz.func49, Tryz.ntmps49
    go_wp2_with fail
    go_ret
    exact ⟨ret_bool (unhide HV).symm, unhide HB⟩
end Go.Proofs.YtdlbpbglidhlfaaGreatDoor
