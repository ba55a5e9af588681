/- WireImplB, WireImplC, WireImplD, WireImplE, Gen2, WireCut, WireImplF, GenWant, WireImplG: our own definitions and contracts; no statement of the seat is proved here. -/
import Derived.Test.YteggocgfaejmbaaBase02
import Derived.Test.YteggocgfaejmbaaBase00
namespace Go.Proofs.Yteggocgfaejmbaa
open Go.RowKit Go.Shelf Go.Lib
attribute [local go_sem] Oper.semAt_some

theorem Room.own_from {w0 : World} {t : TypeId} {g C B : Nat} {β : Type} (hB : w0.heap.size ≤ B) (f : β → List UInt8) : OwnFrom B (fun (s : β) W => Room w0 t g C (f s) W) := fun s X Y row h hg hr =>
  h.to (h.bb.grown hg h.bb.size fun k e => Nat.le_trans hB (hr k e).1) (hg.block g h.lt fun e => by
    obtain ⟨_, o, ho, hc⟩ := hr g e.symm
    obtain ⟨cur, h1, _⟩ := h.own
    rw [h1] at ho
    cases ho
    cases hc)

set_option maxHeartbeats 1000000 in
/-- Bytes in memory of their own, with room. -/
theorem wOwn_any (u : Value) (bs : List UInt8) (n : Nat) (w : World) (h : Bytes w u bs) (hl : bs.length + n ≤ 1073741824) : Calls Try.prog 80 #[u, .int .i64 (n : Int)] w fun e w' => e = .returned (.slice (some ⟨w.heap.size, 0, none⟩) bs.length (bs.length + n)) ∧ Room w 5 w.heap.size (bs.length + n) bs w' := by
  obtain ⟨a, c, rfl, hlc⟩ := h.form
  obtain ⟨k, hk⟩ : ∃ k, k = bs.length := ⟨_, rfl⟩
  rw [← hk] at h hlc hl ⊢
  obtain ⟨m, hm⟩ : ∃ m, m = k + n := ⟨_, rfl⟩
  have hmm : ((k : Nat) : Int) + ((n : Nat) : Int) = ((m : Nat) : Int) := by omega
  rw [← hm] at hl ⊢
  have hm30 : ((m : Nat) : Int) ≤ 1073741824 := by omega
  have hkm : k ≤ m := by omega
  obtain ⟨Z, hZ, hrun⟩ := wMakeRoom m hl
  have hR := Room.made w hZ hl
  obtain ⟨i, hi, hz0, hz1, hz2⟩ := infoByte
  obtain ⟨W', hr, hR', _⟩ := hR.append (P := Try.prog) (h.alloc (.cells Z 5)) (by rw [← hk]; simp; exact hkm) 23 23 5 i Try.underlying23 hi hz1
  simp only [List.length_nil, Nat.zero_add, List.nil_append, ← hk] at hr hR'
  have HR := hide hR'
  have HH := hide hr
  clear hR hR' hr hk h hlc hm hl
  go_enter Try.func80, Try.ntmps80
  go_wp2_with (at_builtin; refine wpList_append_run rfl _ _ 23 23 rfl _ _ _ rfl rfl (unhide HH) ?_)
  go_wp2
  go_ret
  exact ⟨rfl, unhide HR⟩

set_option maxRecDepth 100000 in
set_option maxHeartbeats 2000000 in
/-- A number's bytes are put behind bytes that have room. -/
theorem wPutNumber_any (w0 : World) (t : TypeId) (g C : Nat) (bs : List UInt8) (n : Int) (hn : InR n) (w : World) (h : Room w0 t g C bs w) (hroom : bs.length + (numB n).length ≤ C) (hl : bs.length ≤ 1073741824) :
    Calls Try.prog 79 #[.slice (some ⟨g, 0, none⟩) bs.length C, .int .i64 n] w fun e w' => e = .returned (.slice (some ⟨g, 0, none⟩) (bs.length + (numB n).length) C) ∧ Room w0 t g C (bs ++ numB n) w' := by
  obtain ⟨k, hk⟩ : ∃ k, k = bs.length := ⟨_, rfl⟩
  rw [← hk] at hroom hl ⊢
  obtain ⟨w2, hw2⟩ : ∃ w2, w2 = (w.alloc (.cells #[.slice (some ⟨g, 0, none⟩) k C] 23)).alloc (.cells #[.int .u64 ((zz n : Nat) : Int)] 91) := ⟨_, rfl⟩
  have HR2 : Hid (Room w0 t g C bs w2) := by rw [hw2]; exact (h.alloc _).alloc _
  have HSZ : Hid (w2.heap.size = w.heap.size + 2) := by rw [hw2]; show _ = _; simp
  have c0 : w2.cell? ⟨w.heap.size, 0, none⟩ = some (.slice (some ⟨g, 0, none⟩) k C) ∧ w2.frozen? ⟨w.heap.size, 0, none⟩ = false := by
    have c := wboxNew w (.slice (some ⟨g, 0, none⟩) k C) 23
    rw [hw2]
    exact ⟨wboxKept _ c.1, wboxFrozen _ c.1 c.2⟩
  have c1 : w2.cell? ⟨w.heap.size + 1, 0, none⟩ = some (.int .u64 ((zz n : Nat) : Int)) := by
    have c := wboxNew (w.alloc (.cells #[.slice (some ⟨g, 0, none⟩) k C] 23)) (.int .u64 ((zz n : Nat) : Int)) 91
    rw [World.size_alloc] at c
    rw [hw2]
    exact c.1
  have hgw := h.lt
  have h0w := h.new
  have HG := hide hgw
  have H0 := hide h0w
  have C0 := hide c0
  have C1 := hide c1
  have HW2 := hide hw2
  have HI := hide hn
  have HT := hide (numB_ten hn)
  have HK := hide hk
  have HRM := hide hroom
  have HL := hide hl
  clear c0 c1 hw2 hn h hk hroom hl hgw h0w
  refine (callsIn_wide (n := 3)).1 ?_
  refine callsIn_of_wp_marks Try.func79 rfl trivial ?_ rfl
  simp only [Try.ntmps79, List.size_toArray, List.length_cons, List.length_nil, Nat.reduceAdd, Nat.reduceSub, Array.replicate_succ, Array.replicate_zero, List.push_toArray, List.append_toArray, List.nil_append, List.cons_append]
  gi_wp2
  refine ⟨trivial, (callsIn_wide.2 (folded_any n (unhide HI) _)).mono ?_⟩
  rintro e w' ⟨rfl, rfl⟩
  gi_wp2
  refine ⟨trivial, (callsIn_wide.2 (groups_any (zz n) _)).mono ?_⟩
  rintro e w' ⟨rfl, rfl⟩
  rw [← unhide HW2]
  simp only [World.size_alloc]
  gi_wp2
  have hsz := unhide HSZ
  have hgw := unhide HG
  have h0w := unhide H0
  refine wpIn_rangeFunc_ownF rfl (by omega) (gf := 90) (lb := #[.pointer (some ⟨w.heap.size + 1, 0, none⟩)]) rfl trivial (enters_of Try.func90 (by kernel_rfl) rfl)
    (groups_stops (3 - 1) (by omega) (w.heap.size + 1) (zz n) (zz_lt (unhide HI)) w2 (unhide C1)) (fun _ _ => trivial) (fun _ _ _ _ _ _ _ _ => trivial) (Below.refl _ _) (fun _ => rfl)
    (fun pre W => (W.cell? ⟨w.heap.size, 0, none⟩ = some (.slice (some ⟨g, 0, none⟩) (k + pre.length) C) ∧ W.frozen? ⟨w.heap.size, 0, none⟩ = false) ∧ Room w0 t g C (bs ++ pre) W)
    (fun _ _ _ => False)
    (OwnFrom.and (Own.from (fun s A B row hs hg hr => ⟨cell_kept hs.1 hg hr, (frozen_kept hs.1 hg hr).trans hs.2⟩) _) (Room.own_from (by omega) _))
    (fun _ _ _ _ _ hs _ _ => hs)
    ⟨unhide C0, by rw [List.append_nil]; exact unhide HR2⟩
    (fun x => { tmps := #[.slice (some ⟨g, 0, none⟩) k C, .int .i64 n, .pointer (some ⟨w.heap.size, 0, none⟩), undef, .slice none 0 0, .int .u8 ((x.toNat : Nat) : Int), .int .i64 n, .int .u64 ((zz n : Nat) : Int), .func (.func 90) #[] #[.pointer (some ⟨w.heap.size + 1, 0, none⟩)], .int .u8 ((x.toNat : Nat) : Int), undef, undef, undef, undef, undef], defers := [] }) ?assign ?body ?done ?stop
  case assign =>
    intro l x W K hK
    gi_wp2
    simpa [bv] using hK
  case body =>
    rintro l pre x W ⟨⟨hc, hf⟩, hR⟩ hN
    obtain ⟨i, hi, hz0, hz1, hz2⟩ := infoByte
    have hlen : (bs ++ pre).length = k + pre.length := by rw [List.length_append, ← unhide HK]
    have hNN : pre.length < (numB n).length := hN
    obtain ⟨W', hr, hR', hg⟩ := (hR.alloc (.cells #[.int .u8 (x.toNat : Nat)] 5)).append (P := Try.prog) (bytes_one W x) (by rw [hlen]; have := unhide HRM; simp; omega) 23 23 5 i Try.underlying23 hi hz1
    have hBN : w.heap.size < W.heap.size := World.block_lt_of_cell? W ⟨w.heap.size, 0, none⟩ hc
    have hcA := wboxKept (.cells #[.int .u8 (x.toNat : Nat)] 5) hc
    have hfA := wboxFrozen (.cells #[.int .u8 (x.toNat : Nat)] 5) hc hf
    have hgb : W'.heap[w.heap.size]? = (W.alloc (.cells #[.int .u8 (x.toNat : Nat)] 5)).heap[w.heap.size]? := hg.block _ (by simp; omega) (by simp; omega)
    have hc1 : W'.cell? ⟨w.heap.size, 0, none⟩ = some (.slice (some ⟨g, 0, none⟩) (k + pre.length) C) := (World.cell?_of_block (a := ⟨w.heap.size, 0, none⟩) hgb).trans hcA
    have hf1 : W'.frozen? ⟨w.heap.size, 0, none⟩ = false := (World.frozen?_of_block (a := ⟨w.heap.size, 0, none⟩) hgb).trans hfA
    have HKO : Hid (KeepsOthers W W') := (KeepsOthers.alloc _ _).trans (KeepsOthers.of_grownBy hg fun j o e ho => by
      cases e
      obtain ⟨cur, h1, _⟩ := (hR.alloc (.cells #[.int .u8 (x.toNat : Nat)] 5)).own
      rw [h1] at ho
      cases ho
      rfl)
    simp only [List.length_singleton, hlen] at hr
    have HR := hide hR'
    have HRN := hide hr
    have HBW := hide hR'.lt
    clear hR hR' hr hg hcA hfA hgb hlen
    gi_wp2_with (gi_at_builtin; refine wpListIn_append_run rfl _ _ 23 23 rfl _ _ _ rfl rfl (unhide HRN) ?_)
    gi_wp2
    show KeepsOthers W (W'.setCell ⟨w.heap.size, 0, none⟩ _) ∧ True ∧ (_ ∧ _) ∧ _
    refine ⟨(unhide HKO).trans (KeepsOthers.setCell _ _ _), trivial, ⟨?_, ?_⟩, ?_⟩
    · rw [List.length_append, ← Nat.add_assoc]; exact World.cell?_setCell_same' _ _ _ (by rw [hc1]; rfl)
    · rw [World.frozen?_setCell]; exact hf1
    · rw [← List.append_assoc]; exact (unhide HR).set (by show w.heap.size ≠ g; omega) (by show w0.heap.size ≤ w.heap.size; omega) _
  case done =>
    rintro D ys W hD rfl ⟨⟨hc, _⟩, hR⟩ hK
    have HR := hide hR
    clear hR
    have HLN : Hid (k + (grp (zz n)).length = k + (numB n).length) := rfl
    gi_wp2
    refine ⟨by simp, .inl ⟨_, _, rfl, run_takeDeferred hK, ?_⟩⟩
    refine ⟨_, results_tmp rfl _ _ _, ?_⟩
    exact ⟨rfl, (unhide HR).to ((unhide HR).bb.trans (belowK_b (w := w2) (by omega) W D _ _ (by omega) hK rfl rfl)) (World.putObj_heap_other (by omega))⟩
  case stop =>
    rintro D c pre W _ _ h _
    exact h.elim
end Go.Proofs.Yteggocgfaejmbaa

namespace Go.Proofs.Yteggocgfaejmbaa
open Go.RowKit Go.Shelf Go.Lib

theorem Bytes.laterW {w w' : World} {u : Value} {bs : List UInt8} (h : Bytes w u bs) (hb : Below w.heap.size w w') : Bytes w' u bs := h.kept fun k _ hk => hb.block k hk
theorem Room.lift {w0 w1 W : World} {t : TypeId} {g C : Nat} {bs : List UInt8} (h : Room w1 t g C bs W) (hb : Below w0.heap.size w0 w1) : Room w0 t g C bs W :=
  ⟨h.own, h.le, h.cm, Nat.le_trans hb.size h.new, hb.trans (h.bb.mono hb.size)⟩

set_option maxHeartbeats 1000000 in
theorem wNum_any (u : Value) (bs : List UInt8) (n : Int) (hn : InR n) (w : World) (h : Bytes w u bs) (hl : bs.length ≤ 1048576) : Calls Try.prog 69 #[u, .int .i64 n] w fun e w' => ∃ v, e = .returned v ∧ Own w v (bs ++ numB n) w' := by
  have HN := hide hn
  have HT := hide (numB_ten hn)
  have HH := hide h
  have HL := hide hl
  clear hn h hl
  go_enter Try.func69, Try.ntmps69
  go_wp2_with fail
  refine (size_any n (unhide HN) _).mono ?_
  rintro e w1 ⟨rfl, hb1⟩
  have HB1 := hide hb1
  clear hb1
  have HH1 := hide ((unhide HH).laterW (unhide HB1))
  have HLL : Hid (bs.length + (numB n).length ≤ 1073741824) := by show _ ≤ _; have := unhide HT; have := unhide HL; omega
  go_wp2_with fail
  refine (wOwn_any u bs (numB n).length _ (unhide HH1) (unhide HLL)).mono ?_
  rintro e w2 ⟨rfl, hr⟩
  have HR := hide (hr.lift (unhide HB1))
  clear hr
  go_wp2_with fail
  refine (wPutNumber_any w _ w1.heap.size (bs.length + (numB n).length) bs n (unhide HN) _ (unhide HR) (Nat.le_refl _) (by have := unhide HL; omega)).mono ?_
  rintro e w3 ⟨rfl, hr⟩
  have HR3 := hide hr
  clear hr
  go_wp2
  go_ret
  refine ⟨_, rfl, ?_⟩
  have := (unhide HR3).isOwn
  rwa [List.length_append] at this

set_option maxHeartbeats 1000000 in
theorem wText_any (u : Value) (bs s : List UInt8) (w : World) (h : Bytes w u bs) (hl : bs.length ≤ 1048576) (hs : s.length ≤ 1048576) : Calls Try.prog 70 #[u, .string ⟨s.toArray⟩] w fun e w' => ∃ v, e = .returned v ∧ Own w v (bs ++ textB s) w' := by
  have hsz : (⟨s.toArray⟩ : ByteArray).size = s.length := by simp [ByteArray.size]
  obtain ⟨n, hn⟩ : ∃ n : Int, n = ((s.length : Nat) : Int) := ⟨_, rfl⟩
  have HN : Hid (InR ((s.length : Nat) : Int)) := by show InR _; unfold InR; omega
  have HT := hide (numB_ten (unhide HN))
  have HH := hide h
  have HL := hide hl
  have HS := hide hs
  have HTB : Hid (textB s = numB ((s.length : Nat) : Int) ++ s) := rfl
  clear hn h hl
  obtain ⟨i, hi, hz0, hz1, hz2⟩ := infoByte
  obtain ⟨z, hz⟩ : ∃ z : ByteArray, z = ⟨s.toArray⟩ := ⟨_, rfl⟩
  rw [← hz] at hsz ⊢
  have HZ := hide hz
  clear hz
  go_enter Try.func70, Try.ntmps70
  go_wp2_with fail
  refine (size_any _ (unhide HN) _).mono ?_
  rintro e w1 ⟨rfl, hb1⟩
  have HB1 := hide hb1
  clear hb1
  have HH1 := hide ((unhide HH).laterW (unhide HB1))
  obtain ⟨m, hm⟩ : ∃ m, m = (numB ((s.length : Nat) : Int)).length + s.length := ⟨_, rfl⟩
  have HM := hide hm
  have hmm : (((numB ((s.length : Nat) : Int)).length : Nat) : Int) + ((s.length : Nat) : Int) = ((m : Nat) : Int) := by omega
  have hm30 : ((m : Nat) : Int) ≤ 1073741824 := by have := unhide HT; omega
  have HLL : Hid (bs.length + m ≤ 1073741824) := by show _ ≤ _; have := unhide HT; have := unhide HL; omega
  clear hm
  go_wp2_with fail
  refine (wOwn_any u bs m _ (unhide HH1) (unhide HLL)).mono ?_
  rintro e w2 ⟨rfl, hr⟩
  have HR := hide (hr.lift (unhide HB1))
  clear hr
  go_wp2_with fail
  refine (wPutNumber_any w _ w1.heap.size (bs.length + m) bs _ (unhide HN) _ (unhide HR) (by have := unhide HM; omega) (by have := unhide HL; omega)).mono ?_
  rintro e w3 ⟨rfl, hr⟩
  have HC3 : Hid ((bs ++ numB ((s.length : Nat) : Int)).length + s.length ≤ bs.length + m) := by show _ ≤ _; rw [List.length_append]; have := unhide HM; omega
  obtain ⟨W', hrun, hR4, _⟩ := hr.appendS (P := Try.prog) s (unhide HC3) 23 9 23 5 i Try.underlying23 Try.underlying9 hi hz1
  rw [List.length_append, ← unhide HZ] at hrun
  have HR4 := hide hR4
  have HRUN := hide hrun
  clear hr hR4 hrun
  go_wp2_with (at_builtin; refine wpList_append_run rfl _ _ 23 9 rfl _ _ _ rfl rfl (unhide HRUN) ?_)
  go_wp2
  go_ret
  refine ⟨_, rfl, ?_⟩
  have := (unhide HR4).isOwn
  rw [List.length_append, List.length_append, List.append_assoc] at this
  rw [unhide HTB]
  exact this

/-- Groups joined, but for what is above 64 bits. -/
def jn64 (bs : List UInt8) : Nat := val bs % 18446744073709551616
theorem or_part (a b k : Nat) (ha : a < 2 ^ k) : a ||| (b * 2 ^ k) = a + b * 2 ^ k := by
  have := Nat.two_pow_add_eq_or_of_lt ha b
  rw [Nat.mul_comm b, Nat.or_comm, ← this, Nat.add_comm]
end Go.Proofs.Yteggocgfaejmbaa

namespace Go.Proofs.Yteggocgfaejmbaa
open Go.RowKit Go.Shelf Go.Lib

theorem or_step (j x y : Nat) (hj : j ≤ 9) (hx : x < 128 ^ j) : bits .or .u64 ((x : Nat) : Int) (IntKind.u64.wrap (((y : Nat) : Int) % 128 * 2 ^ (7 * j))) = (((x + 128 ^ j * (y % 128)) % 18446744073709551616 : Nat) : Int) := by
  have key : ∀ (k : Nat) (K : Nat) (D : Nat), K = 2 ^ k → K * D = 18446744073709551616 → x < K → (2 : Int) ^ k = ((K : Nat) : Int) → bits .or .u64 ((x : Nat) : Int) (IntKind.u64.wrap (((y : Nat) : Int) % 128 * ((K : Nat) : Int))) = (((x + K * (y % 128)) % 18446744073709551616 : Nat) : Int) := by
    intro k K D hK hD hxK _
    have e1 : IntKind.u64.wrap (((y : Nat) : Int) % 128 * ((K : Nat) : Int)) = ((((y % 128) % D) * K : Nat) : Int) := by
      rw [IntKind.wrap_u64, show ((y : Nat) : Int) % 128 * ((K : Nat) : Int) = (((y % 128) * K : Nat) : Int) by rw [Int.natCast_mul]; rfl]
      have : ((y % 128) % D) * K = (y % 128 * K) % 18446744073709551616 := by rw [← hD, Nat.mul_comm K D, Nat.mul_mod_mul_right]
      rw [this]
      omega
    have hDp : 0 < D := Nat.pos_of_ne_zero fun e => by subst e; omega
    have hb : (y % 128) % D < D := Nat.mod_lt _ hDp
    have hle : ((y % 128) % D) * K + K ≤ 18446744073709551616 := by
      have := Nat.mul_le_mul_right K (show (y % 128) % D + 1 ≤ D by omega)
      rw [Nat.add_mul, Nat.one_mul, Nat.mul_comm D K, hD] at this
      exact this
    rw [e1]
    refine (u64_or_nat x _ (by omega) (by omega)).trans ?_
    have e2 : x ||| (y % 128 % D * K) = x + y % 128 % D * K := by rw [hK]; exact or_part x _ k (by rw [← hK]; exact hxK)
    rw [e2]
    have e3 : K * (y % 128) = y % 128 % D * K + 18446744073709551616 * (y % 128 / D) := by
      have h1 := Nat.div_add_mod (y % 128) D
      rw [← hD, Nat.mul_assoc, Nat.mul_comm (y % 128 % D) K, ← Nat.mul_add]
      congr 1
      omega
    congr 1
    rw [e3]
    omega
  have hpow : (128 : Nat) ^ j = 2 ^ (7 * j) := by rw [Nat.pow_mul]
  have hi : (2 : Int) ^ (7 * j) = ((128 ^ j : Nat) : Int) := by rw [hpow]; simp
  have hd : (128 : Nat) ^ j * 2 ^ (64 - 7 * j) = 18446744073709551616 := by rw [hpow, ← Nat.pow_add, show 7 * j + (64 - 7 * j) = 64 by omega]
  rw [hi]
  exact key (7 * j) (128 ^ j) (2 ^ (64 - 7 * j)) hpow hd hx hi
theorem jn_lt64 (bs : List UInt8) : jn64 bs < 18446744073709551616 := Nat.mod_lt _ (by decide)
theorem jn_small (bs : List UInt8) (h : bs.length ≤ 9) : jn64 bs = val bs := by
  unfold jn64
  have h1 := val_lt bs
  have h2 := Nat.pow_le_pow_right (n := 128) (by omega) h
  have h3 : (128 ^ 9 : Nat) = 9223372036854775808 := by decide
  exact Nat.mod_eq_of_lt (by omega)
theorem jn_succ (bs : List UInt8) (j : Nat) (hj : j < bs.length) (h9 : j ≤ 9) : bits .or .u64 ((jn64 (bs.take j) : Nat) : Int) (IntKind.u64.wrap ((((bs.getD j 0).toNat : Nat) : Int) % 128 * 2 ^ (7 * j))) = ((jn64 (bs.take (j + 1)) : Nat) : Int) := by
  have hl : (bs.take j).length = j := by rw [List.length_take]; omega
  rw [jn_small _ (by omega)]
  have hv := val_lt (bs.take j)
  rw [hl] at hv
  rw [or_step j _ _ h9 hv]
  congr 1
  unfold jn64
  rw [List.take_succ_eq_append_getElem hj, val_append, hl, List.getD_eq_getElem?_getD, List.getElem?_eq_getElem hj]
  simp [val]

set_option maxRecDepth 100000 in
set_option maxHeartbeats 2000000 in
theorem joined_any (u : Value) (bs : List UInt8) (w : World) (h : Bytes w u bs) (hl : bs.length ≤ 10) : Calls Try.prog 86 #[u] w fun e w' => e = .returned (.int .u64 ((jn64 bs : Nat) : Int)) ∧ w' = w := by
  obtain ⟨a, c, rfl, hlc⟩ := h.form
  obtain ⟨n, hn⟩ : ∃ n, n = bs.length := ⟨_, rfl⟩
  rw [← hn] at h hlc hl ⊢
  have HH := hide h
  have HN := hide hn
  clear h hn
  go_enter Try.func86, Try.ntmps86
  go_wp2
  go_loopw [3, 8] (fun r k W => ∃ j : Nat, j ≤ n ∧ k = .int .i64 j ∧ r = .int .u64 ((jn64 (bs.take j) : Nat) : Int) ∧ W = w) (fun _ k _ => n - (intOf k).toNat)
  case atStart => exact ⟨0, by omega, rfl, by simp [jn64, val], rfl⟩
  case round =>
    obtain ⟨j, hj, rfl, rfl, rfl⟩ := hrel
    by_cases hlt : j < n
    · obtain ⟨ad, rfl, hc⟩ := (unhide HH).at hlt (unhide HN).symm
      have hk1 : (j : Int) < (n : Int) := by omega
      have HS := hide (jn_succ bs j (by have := unhide HN; omega) (by omega))
      generalize jn64 (bs.take j) = x at *
      have hyl : (bs.getD j 0).toNat < 256 := (bs.getD j 0).toNat_lt
      generalize (bs.getD j 0).toNat = y at *
      go_wp2
      exact ⟨⟨j + 1, by omega, by go_num, by rw [unhide HS], trivial⟩, by simp [intOf]; omega⟩
    · have e : j = n := by omega
      subst e
      have HT : Hid (bs.take j = bs) := List.take_of_length_le (by have := unhide HN; omega)
      rw [unhide HT]
      go_wp2
      go_ret
      exact ⟨rfl, rfl⟩
end Go.Proofs.Yteggocgfaejmbaa

namespace Go.Proofs.Yteggocgfaejmbaa
open Go.RowKit Go.Shelf Go.Lib

/-- Where the first byte is that ends a number. -/
def EndAt (bs : List UInt8) (i : Int) : Prop := (∃ (p : List UInt8) (y : UInt8) (r : List UInt8), bs = p ++ y :: r ∧ Highs p ∧ y.toNat < 128 ∧ i = p.length) ∨ (Highs bs ∧ i = -1)

set_option maxRecDepth 100000 in
set_option maxHeartbeats 2000000 in
theorem indexFunc_any (u : Value) (bs : List UInt8) (w : World) (h : Bytes w u bs) (hl : bs.length ≤ 1048576) : Calls Try.prog 83 #[u, .func (.func 84) #[] #[]] w fun e w' => (∃ i : Int, EndAt bs i ∧ e = .returned (.int .i64 i)) ∧ w' = w := by
  obtain ⟨a, c, rfl, hlc⟩ := h.form
  obtain ⟨n, hn⟩ : ∃ n, n = bs.length := ⟨_, rfl⟩
  rw [← hn] at h hlc hl ⊢
  have HH := hide h
  have HN := hide hn
  clear h hn
  go_enter Try.func83, Try.ntmps83
  go_wp2
  go_loopw [8] (fun k W => ∃ j : Nat, j ≤ n ∧ k = .int .i64 j ∧ Highs (bs.take j) ∧ W = w) (fun k _ => n - (intOf k).toNat)
  case atStart => exact ⟨0, by omega, rfl, fun x hx => by simp at hx, rfl⟩
  case round =>
    obtain ⟨j, hj, rfl, hH, rfl⟩ := hrel
    have HHI := hide hH
    clear hH
    by_cases hlt : j < n
    · obtain ⟨ad, rfl, hc⟩ := (unhide HH).at hlt (unhide HN).symm
      have hk1 : (j : Int) < (n : Int) := by omega
      have HX : Hid (bs.getD j 0 = bs.getD j 0) := rfl
      have HP : Hid (bs = bs.take j ++ bs.getD j 0 :: bs.drop (j + 1)) := by
        show _ = _
        rw [List.getD_eq_getElem?_getD, List.getElem?_eq_getElem (by have := unhide HN; omega), Option.getD_some, ← List.drop_eq_getElem_cons, List.take_append_drop]
      have HL : Hid ((bs.take j).length = j) := by show _ = _; rw [List.length_take]; have := unhide HN; omega
      have HSU : Hid (bs.take (j + 1) = bs.take j ++ [bs.getD j 0]) := by
        show _ = _
        rw [List.getD_eq_getElem?_getD, List.getElem?_eq_getElem (by have := unhide HN; omega), List.take_succ_eq_append_getElem (by have := unhide HN; omega)]
        rfl
      generalize bs.getD j 0 = y at *
      go_wp2_with fail
      refine (isLast_any y.toNat _).mono ?_
      rintro e w' ⟨rfl, rfl⟩
      by_cases hy : y.toNat < 128
      · have hd : decide (y.toNat < 128) = true := decide_eq_true hy
        rw [hd]
        go_wp2
        go_ret
        exact ⟨⟨_, .inl ⟨bs.take j, y, _, unhide HP, unhide HHI, hy, by rw [unhide HL]⟩, rfl⟩, rfl⟩
      · have hd : decide (y.toNat < 128) = false := decide_eq_false hy
        rw [hd]
        go_wp2
        refine ⟨⟨j + 1, by omega, by go_num, fun x hx => ?_, trivial⟩, by simp [intOf]; omega⟩
        rw [unhide HSU] at hx
        rcases List.mem_append.1 hx with h1 | h1
        · exact unhide HHI x h1
        · rw [List.mem_singleton.1 h1]; omega
    · have e : j = n := by omega
      subst e
      have HT : Hid (bs.take j = bs) := List.take_of_length_le (by have := unhide HN; omega)
      go_wp2
      go_ret
      exact ⟨⟨_, .inr ⟨by rw [← unhide HT]; exact unhide HHI, rfl⟩, rfl⟩, rfl⟩

set_option maxHeartbeats 400000 in
theorem bytesEqual_any (u1 u2 : Value) (b1 b2 : List UInt8) (w : World) (h1 : Bytes w u1 b1) (h2 : Bytes w u2 b2) : Calls Try.prog 87 #[u1, u2] w fun e w' => e = .returned (.bool (decide (b1 = b2))) ∧ w' = w := by
  have c1 := run_convert_bytes (P := Try.prog) w 23 9 5 Try.underlying23 Try.underlying5 Try.underlying9 u1 b1 h1
  have c2 := run_convert_bytes (P := Try.prog) w 23 9 5 Try.underlying23 Try.underlying5 Try.underlying9 u2 b2 h2
  have e0 : ((⟨b1.toArray⟩ : ByteArray).toList == (⟨b2.toArray⟩ : ByteArray).toList) = decide (b1 = b2) := by
    rw [ByteArray.toList_eq, ByteArray.toList_eq, Bool.eq_iff_iff]; simp
  have HE : Hid (((⟨b1.toArray⟩ : ByteArray).toList == (⟨b2.toArray⟩ : ByteArray).toList) = decide (b1 = b2)) := e0
  clear e0 h1 h2
  generalize (⟨b1.toArray⟩ : ByteArray) = s1 at *
  generalize (⟨b2.toArray⟩ : ByteArray) = s2 at *
  go_enter Try.func87, Try.ntmps87
  go_wp2
  go_ret
  exact ⟨ret_bool HE.out, rfl⟩
end Go.Proofs.Yteggocgfaejmbaa

namespace Go.Proofs.Yteggocgfaejmbaa
open Go.RowKit

/-- b[l:h]: its value, whatever the world, and its bytes. -/
theorem slice_mid {w : World} {a : Option Addr} {n c l h : Nat} {bs : List UInt8} (hb : Bytes w (.slice a n c) bs) (h1 : l ≤ h) (h2 : h ≤ n) : ∃ sa sc, Bytes w (.slice sa (h - l) sc) ((bs.drop l).take (h - l)) ∧ (∀ W : World, (Instr.slice 23 (.slice a n c) (some (.int .i64 (l : Nat))) (some (.int .i64 (h : Nat))) none).run Try.prog W = .ok (.slice sa (h - l) sc) W) ∧ (∀ W : World, (Instr.sliceAt 23 (.slice a n c) (some (.int .i64 (l : Nat))) (some (.int .i64 (h : Nat))) none).run Try.prog W = .ok (.slice sa (h - l) sc) W) ∧ (∀ k, (Value.slice sa (h - l) sc).ownBlock = some k → (Value.slice a n c).ownBlock = some k) := by
  obtain ⟨hl, hnc⟩ := bytes_len hb
  have hu : Try.prog.underlying 23 = some (.slice 5) := Try.underlying23
  have hel : Try.prog.elem 23 = 5 := by unfold Program.elem; rw [hu]
  have hu' : Try.prog.underlying 23 = some (.slice (Try.prog.elem 23)) := by rw [hel]; exact hu
  have hr : ∀ W : World, (Instr.slice 23 (.slice a n c) (some (.int .i64 (l : Nat))) (some (.int .i64 (h : Nat))) none).run Try.prog W = .ok (.slice (if c = l then a else a.map (·.add l)) (h - l) (c - l)) W := fun W => by
    rw [run_slice_lh W 23 a n c hu' .i64 .i64 l h (by omega) (by omega) (by omega), hel]
    have hsz : (sizeOf 5).run Try.prog W = .ok 1 W := by simp [sizeOf]; rfl
    rw [hsz]
    simp only [Result.andThen, sliced, Int.toNat_natCast, Nat.mul_one]
  refine ⟨_, _, ?_, hr, fun W => by rw [run_sliceAt_slice W _ _ _ _ _ hu']; exact hr W, fun k hk => ?_⟩
  · have hdl : ((bs.drop l).take (h - l)).length = h - l := by rw [List.length_take, List.length_drop]; omega
    rcases hb with ⟨hv, hbn⟩ | ⟨ad, c', hv, hl1, hl2, hbb⟩
    · simp only [Value.slice.injEq] at hv
      obtain ⟨rfl, hn, rfl⟩ := hv
      have e1 : l = 0 := by omega
      have e2 : h = 0 := by omega
      subst e1 e2
      exact .inl ⟨by simp, by rw [hbn]; simp⟩
    · simp only [Value.slice.injEq] at hv
      obtain ⟨rfl, _, rfl⟩ := hv
      by_cases hc : c = l
      · rw [if_pos hc]
        have e0 : h - l = 0 := by omega
        rw [e0]
        exact .inr ⟨ad, c - l, rfl, Nat.zero_le _, by omega, fun j x hx => by simp at hx⟩
      · rw [if_neg hc]
        refine .inr ⟨ad.add l, c - l, by rw [hdl]; rfl, by rw [hdl]; omega, by omega, fun j x hx => ?_⟩
        have hj : j < h - l := by have := (List.getElem?_eq_some_iff.1 hx).1; rw [List.length_map, hdl] at this; exact this
        have := hbb (l + j) x (by rw [List.map_take, List.map_drop, List.getElem?_take, if_pos hj, List.getElem?_drop] at hx; exact hx)
        rwa [Addr.add_add]
  · split at hk
    · cases a <;> exact hk
    · cases a with
      | none => cases hk
      | some ad =>
        have e : (ad.add l).block = ad.block := add_block ad l
        have hk' : some (ad.add l).block = some k := hk
        rw [e] at hk'
        exact hk'

/-- b[:h]: its value, whatever the world, and its bytes. -/
theorem slice_to {w : World} {a : Option Addr} {n c h : Nat} {bs : List UInt8} (hb : Bytes w (.slice a n c) bs) (h1 : h ≤ n) : ∃ sa sc, Bytes w (.slice sa h sc) (bs.take h) ∧ (∀ W : World, (Instr.slice 23 (.slice a n c) none (some (.int .i64 (h : Nat))) none).run Try.prog W = .ok (.slice sa h sc) W) ∧ (∀ W : World, (Instr.sliceAt 23 (.slice a n c) none (some (.int .i64 (h : Nat))) none).run Try.prog W = .ok (.slice sa h sc) W) := by
  obtain ⟨hl, hnc⟩ := bytes_len hb
  obtain ⟨sa, sc, B, q, _, _⟩ := slice_mid (l := 0) (h := h) hb (Nat.zero_le _) h1
  have hu : Try.prog.underlying 23 = some (.slice 5) := Try.underlying23
  have hel : Try.prog.elem 23 = 5 := by unfold Program.elem; rw [hu]
  have hu' : Try.prog.underlying 23 = some (.slice (Try.prog.elem 23)) := by rw [hel]; exact hu
  have hr : ∀ W : World, (Instr.slice 23 (.slice a n c) none (some (.int .i64 (h : Nat))) none).run Try.prog W = .ok (.slice sa h sc) W := fun W => by
    have e1 := run_slice_h W 23 a n c hu' .i64 h (by omega) (by omega)
    have e2 := run_slice_lh W 23 a n c hu' .i64 .i64 (0 : Nat) h (by omega) (by omega) (by omega)
    have e3 := q W
    rw [e2] at e3
    rw [e1]
    exact e3
  exact ⟨sa, sc, B, hr, fun W => by rw [run_sliceAt_slice W _ _ _ _ _ hu']; exact hr W⟩

/-- A struct in a cell and two numbers in slots are handed back. -/
theorem results_ctt {P : Program} {fn : Func} {p u v : Tmp} {ty : TypeId} (h : fn.results = #[.cell p ty, .tmp u, .tmp v]) (tmps : Array Value) (w : World) (g : Nat) (t : TypeId) (cs : Array Value) (fr : Nat × Nat) (d : TypeDesc)
    (hp : tmps.getD p undef = .pointer (some ⟨g, 0, none⟩)) (hg : w.heap[g]? = some (.cells cs t fr))
    (hu : P.underlying ty = some d) (hd : (match d with | .struct _ | .array _ _ => true | _ => false) = true) (hi : (P.info? ty).map (·.size) = some cs.size) :
    (results fn tmps).run P w = .ok (.tuple #[.agg cs, tmps.getD u undef, tmps.getD v undef]) w := by
  have hp' : tmps[p]?.getD undef = .pointer (some ⟨g, 0, none⟩) := by simpa using hp
  simp only [results, h]
  simp [Result.andThen, hp', asAddr, run_loadVar_row w g t ty cs fr d hg hu hd hi]

/-- b[l:]: its value, whatever the world, and its bytes. -/
theorem slice_from {w : World} {a : Option Addr} {n c l : Nat} {bs : List UInt8} (hb : Bytes w (.slice a n c) bs) (h1 : l ≤ n) : ∃ sa sc, Bytes w (.slice sa (n - l) sc) (bs.drop l) ∧ (∀ W : World, (Instr.slice 23 (.slice a n c) (some (.int .i64 (l : Nat))) none none).run Try.prog W = .ok (.slice sa (n - l) sc) W) ∧ (∀ W : World, (Instr.sliceAt 23 (.slice a n c) (some (.int .i64 (l : Nat))) none none).run Try.prog W = .ok (.slice sa (n - l) sc) W) := by
  obtain ⟨hl, hnc⟩ := bytes_len hb
  obtain ⟨sa, sc, B, q, _, _⟩ := slice_mid (l := l) (h := n) hb h1 (Nat.le_refl _)
  have hu : Try.prog.underlying 23 = some (.slice 5) := Try.underlying23
  have hel : Try.prog.elem 23 = 5 := by unfold Program.elem; rw [hu]
  have hu' : Try.prog.underlying 23 = some (.slice (Try.prog.elem 23)) := by rw [hel]; exact hu
  have hr : ∀ W : World, (Instr.slice 23 (.slice a n c) (some (.int .i64 (l : Nat))) none none).run Try.prog W = .ok (.slice sa (n - l) sc) W := fun W => by
    have e1 := run_slice_l W 23 a n c hu' .i64 l (by omega) (by omega)
    have e2 := run_slice_lh W 23 a n c hu' .i64 .i64 l n (by omega) (by omega) (by omega)
    rw [← q W, e1, e2]
    rfl
  refine ⟨sa, sc, ?_, hr, fun W => by rw [run_sliceAt_slice W _ _ _ _ _ hu']; exact hr W⟩
  rwa [List.take_of_length_le (by rw [List.length_drop]; omega)] at B
end Go.Proofs.Yteggocgfaejmbaa

namespace Go.Proofs.Yteggocgfaejmbaa
open Go.RowKit

/-- Where a slice's bytes from place k on lie. -/
def wcutA (a : Option Addr) (n k : Nat) : Option Addr := if n = k then a else a.map (·.add k)

theorem Bytes.cut {w : World} {a : Option Addr} {n c k : Nat} {bs : List UInt8} (h : Bytes w (.slice a n c) bs) (hk : k ≤ n) : Bytes w (.slice (wcutA a n k) (n - k) (n - k)) (bs.drop k) := by
  obtain ⟨hl, hnc⟩ := bytes_len h
  have hdl : (bs.drop k).length = n - k := by rw [List.length_drop, hl]
  rcases h with ⟨hv, rfl⟩ | ⟨ad, c', hv, h1, h2, hr⟩
  · simp only [Value.slice.injEq] at hv
    obtain ⟨rfl, rfl, rfl⟩ := hv
    have : k = 0 := by omega
    subst this
    exact .inl ⟨rfl, rfl⟩
  · simp only [Value.slice.injEq] at hv
    obtain ⟨rfl, _, rfl⟩ := hv
    by_cases e : n = k
    · subst e
      refine .inr ⟨ad, n - n, by rw [hdl, wcutA, if_pos rfl], by omega, by unfold maxLen at *; omega, fun j x hx => ?_⟩
      rw [List.drop_of_length_le (by omega)] at hx
      cases hx
    · refine .inr ⟨ad.add k, n - k, by rw [hdl, wcutA, if_neg e]; rfl, by omega, by unfold maxLen at *; omega, fun j x hx => ?_⟩
      rw [List.map_drop, List.getElem?_drop] at hx
      rw [Addr.add_add]
      exact hr _ _ hx

section
variable {a : Option Addr} {n c : Nat}
theorem typ_bytes : Try.prog.underlying 23 = some (.slice (Try.prog.elem 23)) := by
  have hel : Try.prog.elem 23 = 5 := by unfold Program.elem; rw [Try.underlying23]
  rw [hel]; exact Try.underlying23
theorem cut_run {k : Nat} (h1 : k ≤ n) (h2 : n ≤ c) : (∀ W : World, (Instr.slice 23 (.slice a n c) (some (.int .i64 (k : Nat))) (some (.int .i64 (n : Nat))) (some (.int .i64 (n : Nat)))).run Try.prog W = .ok (.slice (wcutA a n k) (n - k) (n - k)) W) ∧
    (∀ W : World, (Instr.sliceAt 23 (.slice a n c) (some (.int .i64 (k : Nat))) (some (.int .i64 (n : Nat))) (some (.int .i64 (n : Nat)))).run Try.prog W = .ok (.slice (wcutA a n k) (n - k) (n - k)) W) := by
  have hel : Try.prog.elem 23 = 5 := by unfold Program.elem; rw [Try.underlying23]
  have hr : ∀ W : World, (Instr.slice 23 (.slice a n c) (some (.int .i64 (k : Nat))) (some (.int .i64 (n : Nat))) (some (.int .i64 (n : Nat)))).run Try.prog W = .ok (.slice (wcutA a n k) (n - k) (n - k)) W := fun W => by
    rw [run_slice_lhm W 23 a n c typ_bytes .i64 .i64 .i64 k n n (by omega) (by omega) (by omega) (by omega), hel]
    have hsz : (sizeOf 5).run Try.prog W = .ok 1 W := by simp [sizeOf]; rfl
    rw [hsz]
    simp only [Result.andThen, sliced, Int.toNat_natCast, Nat.mul_one, wcutA]
  exact ⟨hr, fun W => by rw [run_sliceAt_slice W _ _ _ _ _ typ_bytes]; exact hr W⟩
theorem wcutL_run {k : Nat} (h1 : k ≤ n) : (∀ W : World, (Instr.slice 23 (.slice a n n) (some (.int .i64 (k : Nat))) none none).run Try.prog W = .ok (.slice (wcutA a n k) (n - k) (n - k)) W) ∧
    (∀ W : World, (Instr.sliceAt 23 (.slice a n n) (some (.int .i64 (k : Nat))) none none).run Try.prog W = .ok (.slice (wcutA a n k) (n - k) (n - k)) W) := by
  have hel : Try.prog.elem 23 = 5 := by unfold Program.elem; rw [Try.underlying23]
  have hr : ∀ W : World, (Instr.slice 23 (.slice a n n) (some (.int .i64 (k : Nat))) none none).run Try.prog W = .ok (.slice (wcutA a n k) (n - k) (n - k)) W := fun W => by
    rw [run_slice_l W 23 a n n typ_bytes .i64 k (by omega) (by omega), hel]
    have hsz : (sizeOf 5).run Try.prog W = .ok 1 W := by simp [sizeOf]; rfl
    rw [hsz]
    simp only [Result.andThen, sliced, Int.toNat_natCast, Nat.mul_one, wcutA]
  exact ⟨hr, fun W => by rw [run_sliceAt_slice W _ _ _ _ _ typ_bytes]; exact hr W⟩
theorem head_run {h : Nat} (h1 : h ≤ c) : (∀ W : World, (Instr.slice 23 (.slice a n c) none (some (.int .i64 (h : Nat))) none).run Try.prog W = .ok (.slice a h c) W) ∧
    (∀ W : World, (Instr.sliceAt 23 (.slice a n c) none (some (.int .i64 (h : Nat))) none).run Try.prog W = .ok (.slice a h c) W) := by
  have hel : Try.prog.elem 23 = 5 := by unfold Program.elem; rw [Try.underlying23]
  have hr : ∀ W : World, (Instr.slice 23 (.slice a n c) none (some (.int .i64 (h : Nat))) none).run Try.prog W = .ok (.slice a h c) W := fun W => by
    rw [run_slice_h W 23 a n c typ_bytes .i64 h (by omega) (by omega), hel]
    have hsz : (sizeOf 5).run Try.prog W = .ok 1 W := by simp [sizeOf]; rfl
    rw [hsz]
    simp only [Result.andThen, sliced, Int.toNat_natCast, Nat.mul_one, Nat.sub_zero]
    by_cases e : c = 0
    · rw [if_pos e]
    · rw [if_neg e]; cases a <;> simp [Addr.add]
  exact ⟨hr, fun W => by rw [run_sliceAt_slice W _ _ _ _ _ typ_bytes]; exact hr W⟩
end
end Go.Proofs.Yteggocgfaejmbaa

namespace Go.Proofs.Yteggocgfaejmbaa
open Go.RowKit Go.Shelf Go.Lib

/-- What TakeNum tells of bytes. -/
def TookNum (a : Option Addr) (n : Nat) (bs : List UInt8) (e : Ending) : Prop :=
  (∃ (x : Int) (k : Nat), Reads bs x k ∧ e = .returned (.tuple #[.int .i64 x, .slice (wcutA a n k) (n - k) (n - k), .int .i64 0])) ∨ (NoNum bs ∧ e = .returned (.tuple #[.int .i64 0, .slice none 0 0, .int .i64 30]))

set_option maxRecDepth 100000 in
set_option maxHeartbeats 2000000 in
theorem takeNum_any (a : Option Addr) (n c : Nat) (bs : List UInt8) (w : World) (h : Bytes w (.slice a n c) bs) (hl : n ≤ 1048576) : Calls Try.prog 74 #[.slice a n c] w fun e w' => TookNum a n bs e ∧ Below w.heap.size w w' := by
  obtain ⟨hbl, hnc⟩ := bytes_len h
  obtain ⟨m, hm⟩ : ∃ m, m = min n 10 := ⟨_, rfl⟩
  have hmm : min (n : Int) 10 = ((m : Nat) : Int) := by omega
  have hm10 : m ≤ 10 := by omega
  have hmn : m ≤ n := by omega
  have hbm := h.take (m := m) hmn hbl
  obtain ⟨q, q'⟩ := head_run (a := a) (n := n) (c := c) (h := m) (by omega)
  have HH := hide h
  have HBL := hide hbl
  have HBM := hide hbm
  have HM := hide hm
  have hml : (bs.take m).length = m := by rw [List.length_take]; omega
  have HML := hide hml
  have HNC := hide hnc
  have HL := hide hl
  clear h hbl hbm hm hml hl
  go_enter Try.func74, Try.ntmps74
  go_wp2_with (refine wpList_min2 rfl (.tmp 10) (.const (.int .i64 10)) 3 3 rfl _ _ _ _ rfl rfl ?_; rw [hmm])
  go_wp2_with fail
  refine (indexFunc_any (.slice a m c) (bs.take m) _ (unhide HBM) (by have := unhide HML; omega)).mono ?_
  rintro e w1 ⟨⟨i, hi, rfl⟩, hw⟩
  rw [hw]
  clear hw w1
  rcases hi with ⟨p, y, r, he, hp, hy, rfl⟩ | ⟨hH, rfl⟩
  · obtain ⟨k, hk⟩ : ∃ k, k = p.length + 1 := ⟨_, rfl⟩
    have hkm : k ≤ m := by have h1 := congrArg List.length he; rw [unhide HML] at h1; simp at h1; omega
    have hbs : bs = p ++ y :: (r ++ bs.drop m) := by
      have h1 := List.take_append_drop m bs
      rw [he] at h1
      exact h1.symm.trans (by simp)
    have htk : bs.take k = p ++ [y] := by
      rw [hbs, hk, show p ++ y :: (r ++ bs.drop m) = (p ++ [y]) ++ (r ++ bs.drop m) by simp]
      exact List.take_left' (by simp)
    have HP := hide hp
    have HY := hide hy
    have HBS := hide hbs
    have HTK := hide htk
    have HKL : Hid ((bs.take k).length = k) := by show _ = _; rw [htk, hk]; simp
    have hbk := (unhide HH).take (m := k) (by omega) (unhide HBL)
    have HBK := hide hbk
    obtain ⟨q1, q1'⟩ := head_run (a := a) (n := n) (c := c) (h := k) (by omega)
    have hk1 : ((p.length : Nat) : Int) + 1 = ((k : Nat) : Int) := by omega
    have hk0 : ((k : Nat) : Int) ≠ 0 := by omega
    have hkn : ((k : Nat) : Int) ≤ (c : Nat) := by omega
    have HK := hide hk
    clear he hp hy hbs htk hbk hk
    have HJL := hide (jn_lt64 (bs.take k))
    have HIN := hide (unz_in (jn_lt64 (bs.take k)))
    have HTEN := hide (numB_ten (unz_in (jn_lt64 (bs.take k))))
    obtain ⟨wA, hwA⟩ : ∃ wA, wA = w.alloc (.cells #[.int .u8 0, .int .u8 0, .int .u8 0, .int .u8 0, .int .u8 0, .int .u8 0, .int .u8 0, .int .u8 0, .int .u8 0, .int .u8 0] 118) := ⟨_, rfl⟩
    have HR : Hid (Room w 118 w.heap.size 10 [] wA) := by
      rw [hwA]
      exact ⟨⟨_, heap_alloc_new w _, rfl, by simp⟩, by simp, by unfold maxLen; omega, Nat.le_refl _, (Below.refl _ w).alloc (Nat.le_refl _) _⟩
    have HWA := hide hwA
    clear hwA
    go_upto_region 4 with fail
    go_wp2_with fail
    refine (joined_any (.slice a k c) (bs.take k) _ (unhide HBK) (by have := unhide HKL; omega)).mono ?_
    rintro e w1 ⟨rfl, hw⟩
    rw [hw]
    clear hw w1
    go_wp2_with fail
    refine (unfolded_any _ (unhide HJL) _).mono ?_
    rintro e w1 ⟨rfl, hw⟩
    rw [hw]
    clear hw w1
    have HX : Hid (zz (unz (jn64 (bs.take k))) = jn64 (bs.take k)) := zz_unz _
    generalize unz (jn64 (bs.take k)) = x at *
    go_upto_region 6 with fail
    rw [← unhide HWA]
    have HLN : Hid (([] : List UInt8).length + (numB x).length ≤ 10) := by show _ ≤ _; simpa using unhide HTEN
    have hkn2 : k ≤ n := by omega
    obtain ⟨q2, q2'⟩ := cut_run (a := a) (n := n) (c := c) (k := k) hkn2 hnc
    by_cases hq : numB x = bs.take k
    · have hd : decide (numB x = bs.take k) = true := decide_eq_true hq
      have HQ := hide hq
      clear hq
      go_cut [29] (fun v wx => v = .bool false ∧ Below w.heap.size w wx)
      case first =>
        go_region_with (first
          | (go_at_call 79; refine (wPutNumber_any w _ w.heap.size 10 [] x (unhide HIN) _ (by exact (unhide HR).drew) (unhide HLN) (by simp)).mono ?_; rintro e w2 ⟨rfl, hR2⟩)
          | (go_at_call 87; refine (bytesEqual_any _ _ (numB x) (bs.take k) _ (by simpa using hR2.bytes) ((unhide HBK).laterW (by exact hR2.bb))).mono ?_; rintro e w3 ⟨rfl, hw3⟩; rw [hw3]; clear hw3; rw [hd]))
        all_goals (
          have HBB := hide hR2.bb
          clear hR2 hd
          go_wp2_with fail
          go_meet
          exact ⟨rfl, unhide HBB⟩)
      obtain ⟨rfl, hb⟩ := hcut
      have HBB := hide hb
      clear hb hd
      go_upto_region 8 with fail
      go_quiet (fail)
      go_wp2_with fail
      go_ret3
      refine ⟨.inl ⟨x, k, ⟨unhide HIN, ?_, ?_⟩, rfl⟩, (unhide HBB).trans ((below_drewN _ _).mono (unhide HBB).size)⟩
      · rw [unhide HQ]; exact (unhide HKL).symm
      · rw [unhide HQ, List.take_append_drop]
    · have hd : decide (numB x = bs.take k) = false := decide_eq_false hq
      have HQ := hide hq
      clear hq
      go_cut [29] (fun v wx => v = .bool true ∧ Below w.heap.size w wx)
      case first =>
        go_region_with (first
          | (go_at_call 79; refine (wPutNumber_any w _ w.heap.size 10 [] x (unhide HIN) _ (by exact (unhide HR).drew) (unhide HLN) (by simp)).mono ?_; rintro e w2 ⟨rfl, hR2⟩)
          | (go_at_call 87; refine (bytesEqual_any _ _ (numB x) (bs.take k) _ (by simpa using hR2.bytes) ((unhide HBK).laterW (by exact hR2.bb))).mono ?_; rintro e w3 ⟨rfl, hw3⟩; rw [hw3]; clear hw3; rw [hd]))
        all_goals (
          have HBB := hide hR2.bb
          clear hR2 hd
          go_wp2_with fail
          go_meet
          exact ⟨rfl, unhide HBB⟩)
      obtain ⟨rfl, hb⟩ := hcut
      have HBB := hide hb
      clear hb hd
      go_wp2_with fail
      go_ret3
      refine ⟨.inr ⟨fun x' k' hr => ?_, rfl⟩, unhide HBB⟩
      obtain ⟨p', y', e1, e2, h3, h4, _, h5⟩ := hr.form
      obtain ⟨rfl, rfl, _⟩ := highs_same (unhide HP) h3 (unhide HY) h4 ((unhide HBS).symm.trans e1)
      apply unhide HQ
      have hz := unhide HX
      rw [unhide HTK, h5] at hz ⊢
      have h6 : jn64 (numB x') = zz x' := by
        unfold jn64 numB
        rw [val_grp]
        exact Nat.mod_eq_of_lt (zz_lt hr.inr)
      rw [h6] at hz
      rw [zz_inj hz]
  · have HHI := hide hH
    clear hH
    go_wp2
    go_ret3
    refine ⟨.inr ⟨?_, rfl⟩, Below.refl _ _⟩
    exact noNum_highs (unhide HHI) (by have := unhide HM; have := unhide HBL; omega)
end Go.Proofs.Yteggocgfaejmbaa

namespace Go.Proofs.Yteggocgfaejmbaa
open Go.RowKit

theorem wpList_want {P : Program} {ops : Array Oper} {Q : Exit → Act → World → Prop} {a : Act} {w : World} {rest : List Oper} {o : Oper} (hw : Region.wanted o (yielded ops a.tmps) = true)
    (h : ∀ K : Act → World → Prop, (∀ a w, wpList P ops Q rest a w → K a w) → o.wp P a w K Q) : wpList P ops Q (o :: rest) a w :=
  wpList_step fun K hK => by rw [if_pos hw]; exact h K hK

theorem wpList_append_bytes_w {P : Program} (w : World) {ops : Array Oper} {rest : List Oper} {op : Oper} {a : Act} {Q : Exit → Act → World → Prop}
    (hg : Region.wanted op (yielded ops a.tmps) = true) (s x : Operand) (t : TypeId) (hop : op.op = Op.call { callee := Callee.builtin Builtin.append, args := #[s, x], argTypes := #[t, t] })
    (e : TypeId) (i : TypeInfo) (z : Value) (ht : P.underlying t = some (.slice e)) (hi : P.info? e = some i) (hz : i.zero = some z) (hs : i.size = 1) (hb : i.bytes = 1) (hzs : z.cells.size = 1)
    (v : Value) (xs : List UInt8) (hsv : a.eval s = v) (hown : w.ownsRow 0 e 1 v xs.length (xs.map bv)) (u : Value) (bs : List UInt8) (hxu : a.eval x = u) (hu : Bytes w u bs) (hl : xs.length + bs.length ≤ 140737488355328)
    (hK : ∀ v' w', w'.ownsRow 0 e 1 v' (xs ++ bs).length ((xs ++ bs).map bv) → w.grownBy w' v.ownBlock → (v'.ownBlock = v.ownBlock ∨ ∃ k, v'.ownBlock = some k ∧ w.heap.size ≤ k) → wpList P ops Q rest (a.put op.dst v') w') :
    wpList P ops Q (op :: rest) a w := by
  refine wpList_want hg fun K hK' => ?_
  obtain ⟨v', w', hrun, r1, r2, r3⟩ := run_append_bytes (P := P) w t op.type e i z ht hi hz hs hb hzs v xs hown u bs hu hl
  unfold Oper.wp
  simp [execOp, hop, resolve, invoke, builtin, hsv, hxu, hrun, Result.andThen]
  exact hK' _ _ (hK v' w' r1 r2 r3)

/-- max of two numbers, in one way. -/
theorem wpList_max2_w {P : Program} {w : World} {ops : Array Oper} {rest : List Oper} {op : Oper} {a : Act} {Q : Exit → Act → World → Prop} (hgd : Region.wanted op (yielded ops a.tmps) = true) (x y : Operand) (t s : TypeId)
    (ho : op.op = .call { callee := .builtin .max, args := #[x, y], argTypes := #[t, s] }) (k k' : IntKind) (m n : Int) (hx : a.eval x = .int k m) (hy : a.eval y = .int k' n)
    (h : wpList P ops Q rest (a.put op.dst (.int k (max m n))) w) : wpList P ops Q (op :: rest) a w := by
  refine wpList_want hgd fun K hK => ?_
  have hrun : (Builtin.max_ #[t, s] op.type #[.int k m, .int k' n]).run P w = .ok (.int k (max m n)) w := by
    rw [run_max_int2]; congr 2; split <;> omega
  unfold Oper.wp
  simp [execOp, ho, resolve, invoke, builtin, hx, hy, hrun, Result.andThen]
  exact hK _ _ h
end Go.Proofs.Yteggocgfaejmbaa

namespace Go.Proofs.Yteggocgfaejmbaa
open Go.RowKit Go.Shelf Go.Lib

/-- min of two numbers, in one way, under a guard. -/
theorem wpList_min2_w {P : Program} {w : World} {ops : Array Oper} {rest : List Oper} {op : Oper} {a : Act} {Q : Exit → Act → World → Prop} (hgd : Region.wanted op (yielded ops a.tmps) = true) (x y : Operand) (t s : TypeId)
    (ho : op.op = .call { callee := .builtin .min, args := #[x, y], argTypes := #[t, s] }) (k k' : IntKind) (m n : Int) (hx : a.eval x = .int k m) (hy : a.eval y = .int k' n)
    (h : wpList P ops Q rest (a.put op.dst (.int k (min m n))) w) : wpList P ops Q (op :: rest) a w := by
  refine wpList_want hgd fun K hK => ?_
  have hrun : (Builtin.min_ #[t, s] op.type #[.int k m, .int k' n]).run P w = .ok (.int k (min m n)) w := by
    rw [run_min_int2]; congr 2; split <;> omega
  unfold Oper.wp
  simp [execOp, ho, resolve, invoke, builtin, hx, hy, hrun, Result.andThen]
  exact hK _ _ h

/-- What TakeText tells of bytes. -/
def TookText (a : Option Addr) (n : Nat) (bs : List UInt8) (most : Int) (e : Ending) : Prop :=
  (∃ (s : List UInt8) (k : Nat), ReadsT bs most s k ∧ e = .returned (.tuple #[.string ⟨s.toArray⟩, .slice (wcutA (wcutA a n k) (n - k) s.length) (n - k - s.length) (n - k - s.length), .int .i64 0])) ∨
  (NoText bs most ∧ e = .returned (.tuple #[.string ⟨#[]⟩, .slice none 0 0, .int .i64 30]))

set_option maxRecDepth 100000 in
set_option maxHeartbeats 2000000 in
theorem takeText_any (a : Option Addr) (n c : Nat) (bs : List UInt8) (most : Int) (w : World) (h : Bytes w (.slice a n c) bs) (hl : n ≤ 1048576) (hmost : InR most) : Calls Try.prog 76 #[.slice a n c, .int .i64 most] w fun e w' => TookText a n bs most e ∧ Below w.heap.size w w' := by
  obtain ⟨hbl, hnc⟩ := bytes_len h
  have HH := hide h
  have HBL := hide hbl
  have HL := hide hl
  have HMO := hide hmost
  clear h hbl hnc hl hmost
  go_enter Try.func76, Try.ntmps76
  go_wp2_with fail
  refine (takeNum_any a n c bs _ (unhide HH) (unhide HL)).mono ?_
  rintro e w1 ⟨ht, hb1⟩
  have HB1 := hide hb1
  clear hb1
  rcases ht with ⟨x, k, hr, rfl⟩ | ⟨hN, rfl⟩
  · have HR := hide hr
    have hkn := hr.le
    rw [unhide HBL] at hkn
    have hk0 := hr.pos
    obtain ⟨hx1, hx2⟩ := hr.inr
    have HC := hide (((unhide HH).cut hkn).laterW (unhide HB1))
    have hBS : (bs.drop k).length = n - k := by rw [List.length_drop, unhide HBL]
    have HBS := hide hBS
    obtain ⟨l, hlk⟩ : ∃ l, l = n - k := ⟨_, rfl⟩
    rw [← hlk] at HC HBS
    have HLK := hide hlk
    have hl20 : l ≤ 1048576 := by have := unhide HL; omega
    obtain ⟨aa, haa⟩ : ∃ aa, aa = wcutA a n k := ⟨_, rfl⟩
    rw [← haa] at HC
    have HAA := hide haa
    rw [← unhide HLK, ← haa]
    clear hr hkn hk0 hBS hlk haa
    by_cases hneg : x < 0
    · have hneg' : decide (x < 0) = true := decide_eq_true hneg
      go_wp2_with fail
      go_ret3
      refine ⟨.inr ⟨?_, rfl⟩, unhide HB1⟩
      exact noText_of (unhide HR) (.inl (by omega))
    · have hneg' : decide (x < 0) = false := decide_eq_false hneg
      obtain ⟨y, hy⟩ : ∃ y, y = min most ((l : Nat) : Int) := ⟨_, rfl⟩
      have HY := hide hy
      by_cases hgt : x > y
      · have hgt' : decide (x > y) = true := decide_eq_true hgt
        clear hy
        go_wp2_with (refine wpList_min2_w (by simp [Region.wanted, yielded]) (.tmp 23) (.tmp 25) 3 3 rfl _ _ _ _ rfl rfl ?_; rw [← unhide HY])
        go_wp2_with fail
        go_ret3
        refine ⟨.inr ⟨?_, rfl⟩, unhide HB1⟩
        refine noText_of (unhide HR) (.inr ?_)
        have := unhide HBL
        have := unhide HY
        have := unhide HLK
        have h3 := (unhide HR).le
        omega
      · have hgt' : decide (x > y) = false := decide_eq_false hgt
        obtain ⟨z, hz⟩ : ∃ z : Nat, x = ((z : Nat) : Int) := ⟨x.toNat, by omega⟩
        subst hz
        have hzl : z ≤ l := by omega
        have hzm : ((z : Nat) : Int) ≤ most := by omega
        have HZM := hide hzm
        have HZL := hide hzl
        obtain ⟨q1, q1'⟩ := head_run (a := aa) (n := l) (c := l) (h := z) hzl
        obtain ⟨q2, q2'⟩ := wcutL_run (a := aa) (n := l) (k := z) hzl
        have hbt := (unhide HC).take (m := z) hzl (unhide HBS)
        have cv : ∀ W : World, Below w1.heap.size w1 W → (convert 23 9 (.slice aa z l)).run Try.prog W = .ok (.string ⟨((bs.drop k).take z).toArray⟩) W := fun W hb =>
          run_convert_bytes (P := Try.prog) W 23 9 5 Try.underlying23 Try.underlying5 Try.underlying9 _ _ (hbt.laterW hb)
        have CV := hide cv
        have HRT : Hid (ReadsT bs most ((bs.drop k).take z) k) := by
          have := readsT_of (unhide HR) (by omega) hzm (by have := unhide HBL; have := unhide HLK; have h3 := (unhide HR).le; omega)
          rwa [Int.toNat_natCast] at this
        have HTL : Hid (((bs.drop k).take z).length = z) := by show _ = _; rw [List.length_take, unhide HBS]; omega
        generalize (bs.drop k).take z = t at *
        clear hy hbt cv
        go_upto_region 4 with fail
        go_wp2_with (refine wpList_min2_w (by simp [Region.wanted, yielded]) (.tmp 23) (.tmp 25) 3 3 rfl _ _ _ _ rfl rfl ?_; rw [← unhide HY])
        go_upto_region 6 with fail
        have cvn : ∀ j, (convert 23 9 (.slice aa z l)).run Try.prog (w1.drewN j) = .ok (.string ⟨t.toArray⟩) (w1.drewN j) := fun j => unhide CV _ (below_drewN _ _)
        generalize hB : (⟨t.toArray⟩ : ByteArray) = st at *
        clear hneg hneg' hgt hgt' hzl hzm
        go_quiet (fail)
        go_wp2_with fail
        go_ret3
        refine ⟨.inl ⟨t, k, unhide HRT, ?_⟩, (unhide HB1).trans ((below_drewN _ _).mono (unhide HB1).size)⟩
        rw [unhide HTL, ← unhide HLK, ← unhide HAA, hB]
        rfl
  · go_wp2_with fail
    go_ret3
    exact ⟨.inr ⟨noText_of_noNum hN, rfl⟩, unhide HB1⟩
end Go.Proofs.Yteggocgfaejmbaa
