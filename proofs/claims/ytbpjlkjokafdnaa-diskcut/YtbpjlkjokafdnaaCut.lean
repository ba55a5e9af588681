/- DiskCut: the walk of the statement's function. -/
import Derived.Test.YtbpjlkjokafdnaaEnv
import Derived.BigRegion
namespace Go.Proofs.Ytbpjlkjokafdnaa
open Go.RowKit

theorem Bytes.take {w : World} {a : Option Addr} {n c m : Nat} {bs : List UInt8} (h : Bytes w (.slice a n c) bs) (hm : m ≤ n) (hl : bs.length = n) : Bytes w (.slice a m c) (bs.take m) := by
  have hlt : (bs.take m).length = m := by rw [List.length_take]; omega
  rcases h with ⟨hv, rfl⟩ | ⟨ad, c', hv, hl1, hl2, hr⟩
  · simp only [Value.slice.injEq] at hv
    obtain ⟨rfl, rfl, rfl⟩ := hv
    have : m = 0 := by omega
    subst this
    exact .inl ⟨rfl, by simp⟩
  · simp only [Value.slice.injEq] at hv
    obtain ⟨rfl, _, rfl⟩ := hv
    refine .inr ⟨ad, c, by rw [hlt], by omega, hl2, fun j x hx => hr j x ?_⟩
    rw [List.map_take, List.getElem?_take] at hx
    split at hx
    · exact hx
    · cases hx

/-- A disk of 1000 bytes with x on segment 1, of which s bytes are safe. -/
def cutA (x : List UInt8) (s : Nat) : AD := { AD.new 1000 with x := upd (fun _ => []) 1 x, safe := upd (fun _ => 0) 1 s }
theorem cutA_tick (x : List UInt8) (s : Nat) : (cutA x s).tick = cutA x s := tick_neg (by show ¬ (0 : Int) < -1; omega)
theorem cutA_new : AD.new 1000 = cutA [] 0 := by
  unfold cutA
  have e1 : upd (fun _ => ([] : List UInt8)) 1 [] = fun _ => [] := by funext j; unfold upd; split <;> rfl
  have e2 : upd (fun _ => (0 : Nat)) 1 0 = fun _ => 0 := by funext j; unfold upd; split <;> rfl
  rw [e1, e2]; rfl
theorem cutA_app (x y : List UInt8) (s : Nat) : { (cutA x s).tick with x := upd (cutA x s).x 1 ((cutA x s).x 1 ++ y) } = cutA (x ++ y) s := by
  rw [cutA_tick]; unfold cutA; simp only [upd_upd, upd_same]
theorem cutA_sync (x : List UInt8) (s : Nat) : (cutA x s).tick.synced 1 = cutA x x.length := by
  rw [cutA_tick]; unfold AD.synced cutA; simp only [upd_upd, upd_same]
theorem cutA_cut (x : List UInt8) (s n : Nat) : (cutA x s).tick.cut 1 n = cutA (x.take n) (min s n) := by
  rw [cutA_tick]; unfold AD.cut cutA; simp only [upd_upd, upd_same]
theorem cutA_x0 (x : List UInt8) (s : Nat) : (cutA x s).x 0 = [] := rfl
theorem cutA_x1 (x : List UInt8) (s : Nat) : (cutA x s).x 1 = x := upd_same (fun _ => []) 1 x
theorem cutA_crash (x : List UInt8) (s : Nat) (k : Nat → Int) : ((cutA x s).crashed k).x 1 = x.take (s + keepN (k 1) (x.length - s)) := by
  unfold AD.crashed AD.crashSlot AD.crashSeg cutA
  simp [upd]

set_option maxHeartbeats 1000000 in
theorem diskCut_any (a1 : Option Addr) (n1 c1 : Nat) (b1 : List UInt8) (a2 : Option Addr) (n2 c2 : Nat) (b2 : List UInt8) (at_ : Int) (k0 k1 k2 k3 : Int) (w : World) (h1 : Bytes w (.slice a1 n1 c1) b1) (l1 : b1.length = n1) (m1 : n1 ≤ c1) (h2 : Bytes w (.slice a2 n2 c2) b2) (l2 : b2.length = n2) (m2 : n2 ≤ c2) (ha0 : 0 ≤ at_) (ha1 : at_ ≤ 255) :
    Calls Try.prog 8 #[.slice a1 n1 c1, .slice a2 n2 c2, .int .u8 at_, .agg #[.int .i64 k0, .int .i64 k1, .int .i64 k2, .int .i64 k3]] w fun e w' => e = .returned (.bool true) ∧ Below w.heap.size w w' := by
  obtain ⟨p, hp⟩ : ∃ p, p = w.heap.size + 1 := ⟨_, rfl⟩
  have HP := hide hp
  clear hp
  have H1 := hide h1
  have H2 := hide h2
  clear h1 h2
  have e1 : (if (60 : Int) < (n1 : Int) then (60 : Int) else (n1 : Int)) = ((min n1 60 : Nat) : Int) := by split <;> omega
  have e2 : (if (60 : Int) < (n2 : Int) then (60 : Int) else (n2 : Int)) = ((min n2 60 : Nat) : Int) := by split <;> omega
  have E1 := hide e1
  have E2 := hide e2
  have q1l : min n1 60 ≤ n1 := by omega
  have q2l : min n2 60 ≤ n2 := by omega
  have q1m : min n1 60 ≤ 60 := by omega
  have q2m : min n2 60 ≤ 60 := by omega
  clear e1 e2
  go_enter Try.func8, Try.ntmps8
  go_wp2
  go_region
  rw [unhide E1, unhide E2, Int.toNat_natCast, Int.toNat_natCast]
  clear E1 E2
  generalize min n1 60 = q1 at *
  generalize min n2 60 = q2 at *
  go_wp2_with fail
  refine (new_at 1000 (by omega) (by omega) _ p (by simpa using (unhide HP).symm)).mono ?_
  rintro e w1 ⟨rfl, hN, hz1, hb1⟩
  have hp1 := unhide HP
  have HB : Hid (Below w.heap.size w w1) := ((((Below.refl _ w).alloc (Nat.le_refl _) _).drew).trans (hb1.mono (by omega)))
  have K := four_cells w (.int .i64 k0) (.int .i64 k1) (.int .i64 k2) (.int .i64 k3) 35
  have hk : ∀ o x, (w.alloc (.cells #[.int .i64 k0, .int .i64 k1, .int .i64 k2, .int .i64 k3] 35)).cell? ⟨w.heap.size, o, none⟩ = some x → w1.cell? ⟨w.heap.size, o, none⟩ = some x := fun o x hx => by
    rw [hb1.cell (p := ⟨w.heap.size, o, none⟩) (by show w.heap.size < p; omega)]; exact hx
  have K0 := hide (hk 0 _ K.1)
  have K1 := hide (hk 1 _ K.2.1)
  have K2 := hide (hk 2 _ K.2.2.1)
  have K3 := hide (hk 3 _ K.2.2.2)
  have NK : Hid (¬ (fun k => k = p) w.heap.size) := by show ¬ w.heap.size = p; omega
  have A1 : Hid (Bytes w1 (.slice a1 q1 c1) (b1.take q1)) := ((unhide H1).kept (fun k _ hk => (unhide HB).block k hk)).take q1l l1
  have A2 : Hid (Bytes w1 (.slice a2 q2 c2) (b2.take q2)) := ((unhide H2).kept (fun k _ hk => (unhide HB).block k hk)).take q2l l2
  have O1 : Hid (Off (fun k => k = p) w1 (.slice a1 q1 c1) (b1.take q1)) := fun hb k hk => by
    have h3 := ((unhide H1).take q1l l1).lt hb k hk
    have h4 := (unhide A1).lt hb k hk
    exact ⟨fun e => by have e' : k = p := e; omega, h4⟩
  have O2 : Hid (Off (fun k => k = p) w1 (.slice a2 q2 c2) (b2.take q2)) := fun hb k hk => by
    have h3 := ((unhide H2).take q2l l2).lt hb k hk
    have h4 := (unhide A2).lt hb k hk
    exact ⟨fun e => by have e' : k = p := e; omega, h4⟩
  have L1 : Hid ((b1.take q1).length = q1) := by show (b1.take q1).length = q1; rw [List.length_take]; omega
  have L2 : Hid ((b2.take q2).length = q2) := by show (b2.take q2).length = q2; rw [List.length_take]; omega
  clear H1 H2 l1 l2 m1 m2 q1l q2l hk K
  generalize b1.take q1 = x1 at *
  generalize b2.take q2 = x2 at *
  rw [cutA_new] at hN
  have HN := hide hN
  have HZ := hide hz1
  clear hN hz1 hb1 hp1
  go_wp2_with fail
  refine (nAppend1 (unhide HN) rfl (by show (-1 : Int) ≠ 0; omega) _ x1 (unhide A1) (unhide O1) (by have := unhide L1; rw [cutA_x0, cutA_x1]; simp only [List.length_nil]; show _ ≤ (1000 : Int); omega)).mono ?_
  rintro e w2 ⟨rfl, hN⟩
  rw [cutA_app, List.nil_append] at hN
  clear HN
  have HN := hide hN
  clear hN
  go_wp2_with fail
  refine (nSync1 (unhide HN) rfl (by show (-1 : Int) ≠ 0; omega)).mono ?_
  rintro e w3 ⟨rfl, hN⟩
  rw [cutA_sync, unhide L1] at hN
  clear HN
  have HN := hide hN
  clear hN
  go_wp2_with fail
  refine (nAppend1 (unhide HN) rfl (by show (-1 : Int) ≠ 0; omega) _ x2 (unhide A2) (unhide O2) (by have := unhide L1; have := unhide L2; rw [cutA_x0, cutA_x1]; simp only [List.length_nil]; show _ ≤ (1000 : Int); omega)).mono ?_
  rintro e w4 ⟨rfl, hN⟩
  rw [cutA_app] at hN
  have hx1 := hN.bytes (unhide A1) (unhide O1).not
  have hx2 := hN.bytes (unhide A2) (unhide O2).not
  have K0' := hide (hN.cell (unhide K0) (unhide NK))
  have K1' := hide (hN.cell (unhide K1) (unhide NK))
  have K2' := hide (hN.cell (unhide K2) (unhide NK))
  have K3' := hide (hN.cell (unhide K3) (unhide NK))
  obtain ⟨D4, v4, hD4, hS4⟩ := hN
  have NK4 : Hid (¬ D4 w.heap.size) := hS4.notOwn (World.block_lt_of_cell? _ ⟨w.heap.size, 0, none⟩ (unhide K0)) (unhide NK)
  have HB4 : Hid (Below w.heap.size w w4) := (unhide HB).trans (hS4.below (by have := unhide HZ; have := unhide HP; omega) (fun k hk => by have := unhide HP; have e : k = p := hk; omega))
  have HG : Hid (∀ k, D4 k → w.heap.size ≤ k) := fun k hk => by
    have h1 := unhide HP
    have h2 := unhide HZ
    rcases hS4.own k hk with e | e
    · have e' : k = p := e; omega
    · omega
  have HO : Hid ((w4.alloc (.cells #[] 5)).ownsRow 0 5 1 (.slice (some ⟨w4.heap.size, 0, none⟩) 0 0) ([] : List UInt8).length (([] : List UInt8).map bv)) :=
    ⟨by simp, .inr ⟨w4.heap.size, 0, #[], rfl, Nat.zero_le _, heap_alloc_new w4 _, Nat.le_refl _, by decide, rfl, by simp⟩⟩
  have HU := hide (hx1.alloc (.cells #[] 5))
  have HX2 := hide hx2
  have HD4 := hide hD4
  clear HN hx1 hx2 hD4 hS4 K0 K1 K2 K3 A1 A2 O1 O2 NK HB
  obtain ⟨ti, hi, hz0, hz1, hz2⟩ := infoByte
  have l1 : x1.length ≤ 60 := by have := unhide L1; omega
  have l2 : x2.length ≤ 60 := by have := unhide L2; omega
  go_wp2_with (at_builtin; refine wpList_append_bytes _ rfl _ _ 28 rfl 5 ti (.int .u8 0) Try.underlying28 hi hz0 hz1 hz2 rfl _ [] rfl (unhide HO) _ x1 rfl (unhide HU) (by simp; omega) ?_)
  rintro u5 w5 r1 r2 r3
  have hb5 : Below w4.heap.size w4 w5 := ((Below.refl _ _).alloc (Nat.le_refl _) _).grown r2 (by simp) (fun k hk => by simp [Value.ownBlock] at hk; omega)
  have hu5 : ∀ k, u5.ownBlock = some k → w4.heap.size ≤ k := fun k hk => by
    rcases r3 with r3 | ⟨k', r3, hle⟩
    · rw [r3] at hk; simp [Value.ownBlock] at hk; omega
    · rw [r3] at hk; cases hk; omega
  have HO5 := hide r1
  have HU5 : Hid (Bytes w5 (.slice a2 q2 c2) x2) := (unhide HX2).kept fun k hk hl => hb5.block k hl
  have HB5 := hide hb5
  have HV5 := hide hu5
  clear r1 r2 r3 HO HU HX2 hb5 hu5
  go_wp2_with (at_builtin; refine wpList_append_bytes _ rfl _ _ 28 rfl 5 ti (.int .u8 0) Try.underlying28 hi hz0 hz1 hz2 rfl _ x1 rfl (unhide HO5) _ x2 rfl (unhide HU5) (by omega) ?_)
  rintro u6 w6 r1 r2 r3
  have hb6 : Below w4.heap.size w4 w6 := (unhide HB5).grown r2 (unhide HB5).size (fun k hk => unhide HV5 k hk)
  have hu6 : ∀ k, u6.ownBlock = some k → w4.heap.size ≤ k ∧ k < w6.heap.size := fun k hk => by
    refine ⟨?_, (r1.lt k hk).2⟩
    rcases r3 with r3 | ⟨k', r3, hle⟩
    · rw [r3] at hk; exact unhide HV5 k hk
    · rw [r3] at hk; cases hk; have := (unhide HB5).size; omega
  rw [← List.length_append, ← List.map_append] at r1
  have hb := bytes_of_owns r1
  obtain ⟨a6, c6, hv6, hc6⟩ : ∃ a6 c6, u6 = .slice a6 (x1 ++ x2).length c6 ∧ (x1 ++ x2).length ≤ c6 := by
    rcases r1.2 with ⟨h, hn⟩ | ⟨g, cap, cur, h, _, _, hle, _⟩
    · exact ⟨none, 0, by rw [h, hn], by omega⟩
    · exact ⟨_, cap, h, hle⟩
  have hD6 : DiskIs w6 p D4 v4 (cutA (x1 ++ x2) q1) := (unhide HD4).kept hb6.size fun k hk => hb6.block k ((unhide HD4).lt k hk)
  have kc : ∀ o x, w4.cell? ⟨w.heap.size, o, none⟩ = some x → w6.cell? ⟨w.heap.size, o, none⟩ = some x := fun o x hx => by
    rw [hb6.cell (p := ⟨w.heap.size, o, none⟩) (World.block_lt_of_cell? w4 ⟨w.heap.size, o, none⟩ hx)]; exact hx
  have K0 := hide (kc 0 _ (unhide K0'))
  have K1 := hide (kc 1 _ (unhide K1'))
  have K2 := hide (kc 2 _ (unhide K2'))
  have K3 := hide (kc 3 _ (unhide K3'))
  have HB6 : Hid (Below w.heap.size w w6) := (unhide HB4).trans (hb6.mono (unhide HB4).size)
  subst hv6
  have AB := hide hb
  have AO : Hid (Off D4 w6 (.slice a6 (x1 ++ x2).length c6) (x1 ++ x2)) := fun _ k hk => ⟨fun hd => by have := (unhide HD4).lt k hd; have := (hu6 k hk).1; omega, (hu6 k hk).2⟩
  have HN : Hid (Now D4 p (cutA (x1 ++ x2) q1) w6 w6) := Now.start hD6
  have hL : (x1 ++ x2).length = q1 + q2 := by rw [List.length_append, unhide L1, unhide L2]
  clear r1 r2 r3 hb6 hu6 hb hD6 kc K0' K1' K2' K3' HB4 HB5 HV5 HO5 HU5 HD4
  generalize hX : x1 ++ x2 = X at *
  have HX := hide hX
  have HL := hide hL
  have hLm : X.length ≤ 120 := by omega
  clear hX hL
  obtain ⟨m, hm, hmX⟩ : ∃ m : Nat, at_ % ((X.length : Int) + 1) = m ∧ m ≤ X.length := by
    have h1 := Int.emod_nonneg at_ (show (X.length : Int) + 1 ≠ 0 by omega)
    have h2 := Int.emod_lt_of_pos at_ (show (0 : Int) < (X.length : Int) + 1 by omega)
    exact ⟨(at_ % ((X.length : Int) + 1)).toNat, by omega, by omega⟩
  have HM := hide hm
  clear hm
  go_wp2_with fail
  rw [unhide HM]
  have hm0 : (0 : Int) ≤ (m : Int) := by omega
  have hm1 : (m : Int) ≤ (c6 : Int) := by omega
  have hwr : IntKind.i64.wrap ((m : Int) + 1) = (m : Int) + 1 := by rw [IntKind.wrap_i64]; omega
  have HT : Hid ((X.take m).length = m) := by show (X.take m).length = m; rw [List.length_take]; omega
  have HN' : Hid (Now D4 p (cutA X q1) w6 (w6.drewN 1)) := (unhide HN).drewN 1
  clear HN
  rename Hid (Now _ _ _ _ _) => HN
  go_region_with (first
    | (go_at_call 25; refine (nTruncate1 (unhide HN) rfl (by show (-1 : Int) ≠ 0; omega) _ m (by omega) (by rw [cutA_x1]; omega)).mono ?_; rintro e w7 ⟨rfl, hN⟩; rw [cutA_cut] at hN; clear HN; have HN := hide hN; clear hN)
    | (go_at_call 25; refine (nTruncate_arg (unhide HN) rfl 1 _ (.inr ⟨1, by omega, rfl, .inr (by rw [cutA_x1, unhide HT]; omega)⟩)).mono ?_; rintro e w9 ⟨rfl, hN⟩; clear HN; have HN := hide hN; clear hN)
    | (go_at_call 16; refine (nRead1 (unhide HN) rfl).mono ?_; rintro e w8 ⟨r, rfl, hF, hN⟩; rw [cutA_x1] at hF; have HF := hide hF.1; clear HN hF; have HN := hide hN; clear hN)
    | (go_at_call 18; refine (same_any _ _ (X.take m) (X.take m) _ (unhide HF) ((unhide HN).bytes ((unhide AB).take hmX rfl) ((unhide AO).cut (fun h e => h (by rw [e]; exact List.take_nil))).not)).mono ?_; rintro e w' ⟨rfl, rfl⟩; rw [decide_eq_true (rfl : X.take m = X.take m)]))
  have u0 := (unhide HN).cell (unhide K0) (unhide NK4)
  have u1 := (unhide HN).cell (unhide K1) (unhide NK4)
  have u2 := (unhide HN).cell (unhide K2) (unhide NK4)
  have u3 := (unhide HN).cell (unhide K3) (unhide NK4)
  go_wp2_with fail
  refine (nCrash (unhide HN) k0 k1 k2 k3).mono ?_
  rintro e w10 ⟨rfl, hN⟩
  clear HN u0 u1 u2 u3
  have u1 := hN.cell (unhide K1) (unhide NK4)
  have HN := hide hN
  clear hN
  have hq1X : q1 ≤ X.length := by have := unhide HL; omega
  go_wp2_with (first
    | refine wpList_min2 rfl (.tmp 82) (.tmp 84) 3 3 rfl _ _ _ _ rfl rfl ?_
    | refine wpList_max2 rfl (.tmp 88) (.const (.int .i64 0)) 3 3 rfl _ _ _ _ rfl rfl ?_
    | refine wpList_min2 rfl (.tmp 89) (.tmp 92) 3 3 rfl _ _ _ _ rfl rfl ?_)
  obtain ⟨t, ht⟩ : ∃ t : Nat, t = min q1 m + keepN k1 (m - min q1 m) := ⟨_, rfl⟩
  have htm : t ≤ m := by have := keepN_le k1 (m - min q1 m); omega
  have het : min (m : Int) (q1 : Int) + min (max k1 0) ((m : Int) - min (m : Int) (q1 : Int)) = t := by
    have := keepN_eq k1 (m - min q1 m)
    rw [show ((m - min q1 m : Nat) : Int) = (m : Int) - min (m : Int) (q1 : Int) by omega] at this
    rw [this, ht]; omega
  have hxt : ((cutA (X.take m) (min q1 m)).crashed (kp k0 k1 k2 k3)).x 1 = X.take t := by
    rw [cutA_crash, unhide HT]
    show (X.take m).take (min q1 m + keepN k1 (m - min q1 m)) = X.take t
    rw [← ht, List.take_take]
    congr 1
    omega
  rw [het]
  have ht0 : (0 : Int) ≤ (t : Int) := by omega
  have ht1 : (t : Int) ≤ (c6 : Int) := by omega
  have htX : t ≤ X.length := by omega
  have HXT := hide hxt
  have HN' : Hid (Now D4 p ((cutA (X.take m) (min q1 m)).crashed (kp k0 k1 k2 k3)) w6 (w10.drewN 1)) := (unhide HN).drewN 1
  clear HN hxt het ht
  rename Hid (Now _ _ _ _ _) => HN
  go_region_with (first
    | (go_at_call 16; refine (nRead1 (unhide HN) rfl).mono ?_; rintro e w11 ⟨r2, rfl, hF2, hN⟩; rw [unhide HXT] at hF2; have HF2 := hide hF2.1; clear HN hF2; have HN := hide hN; clear hN)
    | (go_at_call 18; refine (same_any _ _ (X.take t) (X.take t) _ (unhide HF2) ((unhide HN).bytes ((unhide AB).take htX rfl) ((unhide AO).cut (fun h e => h (by rw [e]; exact List.take_nil))).not)).mono ?_; rintro e w' ⟨rfl, rfl⟩; rw [decide_eq_true (rfl : X.take t = X.take t)])
    | (go_at_call 10; refine (awake_any _).mono ?_; rintro e w12 ⟨rfl, hA⟩; have HA := hide hA; clear hA))
  go_wp2
  go_ret
  refine ⟨rfl, (unhide HB6).trans (((unhide HN).toBelow (unhide HB6).size (unhide HG)).trans ((unhide HA).mono ?_))⟩
  exact Nat.le_trans (unhide HB6).size (unhide HN).size
end Go.Proofs.Ytbpjlkjokafdnaa
