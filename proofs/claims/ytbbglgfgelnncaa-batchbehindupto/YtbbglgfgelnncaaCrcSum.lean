/- What Sum of package crc answers, by a loop over a function. No statement of the seat is proved here. -/
import Derived.Test.YtbbglgfgelnncaaCrcImplA
import Derived.RangeFuncNested
import Derived.RangeFuncBound
import Derived.RangeFuncCalls
import Derived.RangeFuncLeaves
import Derived.Shelf.Abstract
import Derived.Shelf.RegionOpen
import Derived.WalkKit
import Derived.OwnWalkIn
import Derived.TacticsInMore
import Derived.LoopNIn
import Derived.LoopIn
namespace Go.Proofs.Ytbbglgfgelnncaa
open Go.RowKit Go.Shelf
attribute [local go_sem] Oper.semAt_some

/-- The register behind the first k bytes. -/
def regAt (r : Nat) (bs : List UInt8) (k : Nat) : Nat := (bs.take k).foldl (fun s b => hvs 8 (s ^^^ b.toNat)) r
theorem reg_succ (r : Nat) (bs : List UInt8) (k : Nat) (h : k < bs.length) : regAt r bs (k + 1) = hvs 8 (regAt r bs k ^^^ (bs.getD k 0).toNat) := by
  unfold regAt
  rw [List.take_succ_eq_append_getElem h, List.foldl_append, List.getD_eq_getElem?_getD, List.getElem?_eq_getElem h]
  rfl
theorem reg_lt {r : Nat} (hr : r < 4294967296) (bs : List UInt8) (k : Nat) : regAt r bs k < 4294967296 := by
  unfold regAt
  generalize bs.take k = xs
  induction xs generalizing r with
  | nil => exact hr
  | cons b l ih => exact ih (hvs_lt (xor_lt32 hr (by have := b.toNat_lt; omega)))
theorem reg_sum (bs : List UInt8) : crcOnes ^^^ regAt crcOnes bs bs.length = sumB bs := by
  unfold regAt sumB
  rw [List.take_length]
  suffices h : ∀ (xs : List UInt8) (s : Nat), crcOnes ^^^ xs.foldl (fun s b => hvs 8 (s ^^^ b.toNat)) (crcOnes ^^^ s) = xs.foldl (fun s b => nx s b.toNat) s by
    have := h bs 0
    rwa [Nat.xor_zero] at this
  intro xs
  induction xs with
  | nil => intro s; exact ones_ones s
  | cons b l ih =>
    intro s
    have h2 := ih (nx s b.toNat)
    rw [show crcOnes ^^^ nx s b.toNat = hvs 8 (crcOnes ^^^ s ^^^ b.toNat) from ones_ones _] at h2
    exact h2

/-- What has come when k rounds are over. -/
def comeTo (r : Nat) (bs : List UInt8) (k : Nat) : List Nat := (List.range k).map fun j => regAt r bs (j + 1)
theorem come_succ (r : Nat) (bs : List UInt8) (k : Nat) : comeTo r bs (k + 1) = comeTo r bs k ++ [regAt r bs (k + 1)] := by simp [comeTo, List.range_succ]
theorem come_length (r : Nat) (bs : List UInt8) (k : Nat) : (comeTo r bs k).length = k := by simp [comeTo]

set_option maxRecDepth 100000 in
set_option maxHeartbeats 2000000 in
/-- The closure that tells the registers: for every loop body that keeps what lay below n₀. -/
theorem registers1_in (n : Nat) (hn : 1 ≤ n) (l Bf Bb n₀ r0 len cap : Nat) (a : Option Addr) (bs : List UInt8) (hr0 : r0 < 4294967296) (hlen : bs.length = len) (hmax : len ≤ 1048576) (J Jx : List Nat → World → Prop)
    (hJ : ∀ pre A B, J pre A → Below A.heap.size A B → J pre B)
    (hY : ∀ pre x W, J pre W → pre.length < len → YieldAt Fence.wide (n - 1) Try.prog l #[.int .u32 ((x : Nat) : Int)] W fun e W' =>
      (e = .returned (.bool true) ∧ J (pre ++ [x]) W' ∧ Below n₀ W W') ∨ (e = .returned (.bool false) ∧ Jx (pre ++ [x]) W'))
    (W : World) (hn₀ : n₀ ≤ W.heap.size) (hf : W.cell? ⟨Bf, 0, none⟩ = some (.int .u32 ((r0 : Nat) : Int))) (hb : W.cell? ⟨Bb, 0, none⟩ = some (.slice a len cap)) (hB : Bytes W (.slice a len cap) bs)
    (hlow : ∀ ad, a = some ad → bs ≠ [] → ad.block < n₀) (h0 : J [] W) :
    CallsIn Fence.wide n Try.prog 51 #[.func (.yield l) #[] #[], .pointer (some ⟨Bf, 0, none⟩), .pointer (some ⟨Bb, 0, none⟩)] W fun e W' => (∃ v, e = .returned v) ∧
      ((∃ ys, ys = comeTo r0 bs len ∧ J ys W') ∨ (∃ pre, (∃ k, k ≤ len ∧ pre = comeTo r0 bs k) ∧ Jx pre W')) := by
  have HB := hide hB
  have HJ := hide hJ
  have HLEN := hide hlen
  have HY := hide hY
  have HLOW := hide hlow
  clear hB hJ hlen hY hlow
  refine callsIn_of_wp Try.func51 rfl trivial ?_ rfl
  simp only [Try.ntmps51, List.size_toArray, List.length_cons, List.length_nil, Nat.reduceAdd, Nat.reduceSub, Array.replicate_succ, Array.replicate_zero, List.push_toArray, List.append_toArray, List.nil_append, List.cons_append]
  gi_wp2
  gi_loopw [4, 10] (fun r i wr => ∃ k : Nat, k ≤ len ∧ i = .int .i64 k ∧ r = .int .u32 ((regAt r0 bs k : Nat) : Int) ∧ J (comeTo r0 bs k) wr ∧ Below n₀ W wr)
    (fun _ i _ => len - (intOf i).toNat)
  case atStart => exact ⟨0, Nat.zero_le _, rfl, rfl, h0, Below.refl _ _⟩
  case round =>
    obtain ⟨k, hk, rfl, rfl, hJs, hnx⟩ := hrel
    have HJS := hide hJs
    have HNX := hide hnx
    clear hJs hnx
    by_cases hlt : k < len
    · obtain ⟨ad, rfl, hc⟩ := (unhide HB).at hlt (unhide HLEN)
      have hcx : wr.cell? (ad.add k) = some (.int .u8 ((bs.getD k 0).toNat : Nat)) := ((unhide HNX).cell (p := ad.add k) (by rw [show (ad.add k).block = ad.block by unfold Addr.add; split <;> rfl]; exact unhide HLOW ad rfl (by intro e; have := unhide HLEN; rw [e] at this; simp at this; omega))).trans hc
      have HS := hide (reg_succ r0 bs k (by have := unhide HLEN; omega))
      have HRL := hide (reg_lt hr0 bs k)
      have HBL := hide (bs.getD k 0).toNat_lt
      generalize regAt r0 bs k = x at *
      generalize (bs.getD k 0).toNat = y at *
      gi_wp2
      refine ⟨trivial, (callsIn_wide.2 (through_any x y (unhide HRL) (unhide HBL) _)).mono ?_⟩
      rintro e w' ⟨rfl, hBt⟩
      rw [← unhide HS]
      have HJ2 : Hid (J (comeTo r0 bs k) w') := unhide HJ _ _ _ (unhide HJS) hBt
      have HNX2 : Hid (Below n₀ W w') := (unhide HNX).trans (hBt.mono (Nat.le_trans hn₀ (unhide HNX).size))
      clear hBt
      obtain ⟨fn, tmps, assign, body, hy, hR⟩ := unhide HY _ (regAt r0 bs (k + 1)) w' (unhide HJ2) (by rw [come_length]; exact hlt)
      gi_wp2
      refine hR.mono ?_
      rintro e W3 (⟨rfl, hJ3, hk3⟩ | ⟨rfl, hJx3⟩)
      · gi_wp2
        go_roundw
        case rel => exact ⟨k + 1, by omega, by go_num, rfl, by rw [come_succ]; exact hJ3, (unhide HNX2).trans hk3⟩
        case measure => simp [intOf]; omega
      · gi_wp2
        refine bodyPost_ret (results_none rfl _ _ _) rfl ?_
        exact ⟨⟨_, rfl⟩, .inr ⟨_, ⟨k + 1, by omega, (come_succ _ _ _).symm⟩, hJx3⟩⟩
    · obtain rfl : k = len := by omega
      have hge : ¬ ((k : Nat) : Int) < ((k : Nat) : Int) := by omega
      gi_wp2
      go_end0
      exact ⟨⟨_, rfl⟩, .inl (unhide HJS)⟩

set_option maxHeartbeats 1000000 in
theorem registers_any (r0 : Nat) (a : Option Addr) (len cap : Nat) (w : World) :
    Calls Try.prog 47 #[.int .u32 ((r0 : Nat) : Int), .slice a len cap] w fun e w' => e = .returned (.func (.func 51) #[] #[.pointer (some ⟨w.heap.size, 0, none⟩), .pointer (some ⟨w.heap.size + 1, 0, none⟩)]) ∧ w' = (w.alloc (.cells #[.int .u32 ((r0 : Nat) : Int)] 70)).alloc (.cells #[.slice a len cap] 23) := by
  go_enter Try.func47, Try.ntmps47
  go_wp2
  go_ret
  exact ⟨rfl, rfl⟩

/-- The iterator's contract. -/
theorem registers_stops (n : Nat) (hn : 1 ≤ n) (Bf Bb n₀ r0 len cap : Nat) (a : Option Addr) (bs : List UInt8) (hr0 : r0 < 4294967296) (hlen : bs.length = len) (hmax : len ≤ 1048576) (w : World) (hBf : Bf < w.heap.size) (hBb : Bb < w.heap.size) (hn₀ : n₀ ≤ w.heap.size)
    (hf : w.cell? ⟨Bf, 0, none⟩ = some (.int .u32 ((r0 : Nat) : Int))) (hb : w.cell? ⟨Bb, 0, none⟩ = some (.slice a len cap)) (hB : Bytes w (.slice a len cap) bs) (hlow : ∀ ad, a = some ad → bs ≠ [] → ad.block < n₀) :
    SeqStopsK Fence.wide n Try.prog 51 #[.pointer (some ⟨Bf, 0, none⟩), .pointer (some ⟨Bb, 0, none⟩)] (fun x : Nat => #[Value.int .u32 ((x : Nat) : Int)]) (Below n₀) (fun ys => ys = comeTo r0 bs len) (fun pre => ∃ k, k ≤ len ∧ pre = comeTo r0 bs k) len w := fun l J Jx W hW hJ _ hY h0 => by
  refine registers1_in n hn l Bf Bb n₀ r0 len cap a bs hr0 hlen hmax J Jx (fun pre A B hA hb => hJ pre A B none hA ⟨hb.os, hb.tape, hb.output, hb.size, fun k hk _ => hb.block k hk⟩ (fun r e => by cases e)) hY W (Nat.le_trans hn₀ hW.size)
    ((hW.cell (p := ⟨Bf, 0, none⟩) hBf).trans hf) ((hW.cell (p := ⟨Bb, 0, none⟩) hBb).trans hb) (hB.kept fun k _ hk => hW.block k hk) hlow h0

theorem box_new (W : World) (v : Value) (t : TypeId) : (W.alloc (.cells #[v] t)).cell? ⟨W.heap.size, 0, none⟩ = some v ∧ (W.alloc (.cells #[v] t)).frozen? ⟨W.heap.size, 0, none⟩ = false := ⟨by simp, by simp⟩
theorem box_kept {W : World} {a : Addr} {v : Value} (o : Obj) (h : W.cell? a = some v) : (W.alloc o).cell? a = some v := cell_kept h (World.grownBy_alloc W o none) (fun r e => by cases e)
theorem box_frozen {W : World} {a : Addr} {v : Value} (o : Obj) (h : W.cell? a = some v) (hf : W.frozen? a = false) : (W.alloc o).frozen? a = false := (frozen_kept h (World.grownBy_alloc W o none) (fun r e => by cases e)).trans hf

/-- The register that came last. -/
def lastOf (pre : List Nat) : Nat := pre.getLast?.getD crcOnes
theorem last_snoc (pre : List Nat) (x : Nat) : lastOf (pre ++ [x]) = x := by simp [lastOf]
theorem last_come (bs : List UInt8) (k : Nat) : lastOf (comeTo crcOnes bs k) = regAt crcOnes bs k := by
  cases k with
  | zero => rfl
  | succ k => rw [come_succ, last_snoc]

set_option maxRecDepth 100000 in
set_option maxHeartbeats 2000000 in
theorem sum_any (u : Value) (bs : List UInt8) (w : World) (h : Bytes w u bs) (hl : bs.length ≤ 1048576) : Calls Try.prog 39 #[u] w fun e w' => e = .returned (.int .u32 (sumB bs : Nat)) ∧ Below w.heap.size w w' := by
  obtain ⟨a, cap, rfl, hlc⟩ := h.form
  obtain ⟨len, hn⟩ : ∃ n, n = bs.length := ⟨_, rfl⟩
  rw [← hn] at h hlc hl ⊢
  have HLOW : Hid (∀ ad, a = some ad → bs ≠ [] → ad.block < w.heap.size) := fun ad e hne => h.lt hne ad.block (by rw [e]; rfl)
  obtain ⟨w2, hw2⟩ : ∃ w2, w2 = ((w.alloc (.cells #[.int .u32 4294967295] 70)).alloc (.cells #[.int .u32 ((4294967295 : Nat) : Int)] 70)).alloc (.cells #[.slice a len cap] 23) := ⟨_, rfl⟩
  have HB0 : Hid (Below w.heap.size w w2) := by rw [hw2]; exact (((Below.refl _ w).alloc (Nat.le_refl _) _).alloc (by simp) _).alloc (by simp; omega) _
  have HSZ : Hid (w2.heap.size = w.heap.size + 3) := by rw [hw2]; show _ = _; simp
  have HH : Hid (Bytes w2 (.slice a len cap) bs) := by rw [hw2]; exact ((h.alloc _).alloc _).alloc _
  have c0 : w2.cell? ⟨w.heap.size, 0, none⟩ = some (.int .u32 4294967295) ∧ w2.frozen? ⟨w.heap.size, 0, none⟩ = false := by
    have c := box_new w (.int .u32 4294967295) 70
    rw [hw2]
    exact ⟨box_kept _ (box_kept _ c.1), box_frozen _ (box_kept _ c.1) (box_frozen _ c.1 c.2)⟩
  have c1 : w2.cell? ⟨w.heap.size + 1, 0, none⟩ = some (.int .u32 ((4294967295 : Nat) : Int)) := by
    have c := box_new (w.alloc (.cells #[.int .u32 4294967295] 70)) (.int .u32 ((4294967295 : Nat) : Int)) 70
    rw [World.size_alloc] at c
    rw [hw2]
    exact box_kept _ c.1
  have c2 : w2.cell? ⟨w.heap.size + 2, 0, none⟩ = some (.slice a len cap) := by
    have c := box_new ((w.alloc (.cells #[.int .u32 4294967295] 70)).alloc (.cells #[.int .u32 ((4294967295 : Nat) : Int)] 70)) (.slice a len cap) 23
    rw [World.size_alloc, World.size_alloc] at c
    rw [hw2]
    exact c.1
  have C0 := hide c0
  have C1 := hide c1
  have C2 := hide c2
  have HL := hide hl
  have HN := hide hn
  have HW2 := hide hw2
  clear c0 c1 c2 hl h hn hw2
  refine (callsIn_wide (n := 3)).1 ?_
  refine callsIn_of_wp_marks Try.func39 rfl trivial ?_ rfl
  simp only [Try.ntmps39, List.size_toArray, List.length_cons, List.length_nil, Nat.reduceAdd, Nat.reduceSub, Array.replicate_succ, Array.replicate_zero, List.push_toArray, List.append_toArray, List.nil_append, List.cons_append]
  gi_wp2
  refine ⟨trivial, (callsIn_wide.2 (registers_any 4294967295 a len cap _)).mono ?_⟩
  rintro e w' ⟨rfl, rfl⟩
  rw [← unhide HW2]
  simp only [World.size_alloc]
  gi_wp2
  have hsz := unhide HSZ
  refine wpIn_rangeFunc_ownF rfl (by omega) (gf := 51) (lb := #[.pointer (some ⟨w.heap.size + 1, 0, none⟩), .pointer (some ⟨w.heap.size + 2, 0, none⟩)]) rfl trivial (enters_of Try.func51 (by kernel_rfl) rfl)
    (registers_stops (3 - 1) (by omega) (w.heap.size + 1) (w.heap.size + 2) w.heap.size 4294967295 len cap a bs (by decide) (unhide HN).symm (unhide HL) w2 (by omega) (by omega) (by omega) (unhide C1) (unhide C2) (unhide HH) (unhide HLOW)) belowK_t (belowK_b (by omega)) (Below.refl _ _) (fun _ => rfl)
    (fun pre W => (W.cell? ⟨w.heap.size, 0, none⟩ = some (.int .u32 ((lastOf pre : Nat) : Int)) ∧ W.frozen? ⟨w.heap.size, 0, none⟩ = false) ∧ Below w.heap.size w W)
    (fun _ _ _ => False)
    (OwnFrom.and (Own.from (fun s A B row hs hg hr => ⟨cell_kept hs.1 hg hr, (frozen_kept hs.1 hg hr).trans hs.2⟩) _) (ownFrom_below (Nat.le_refl _) (by omega)))
    (fun _ _ _ _ _ hs _ _ => hs)
    ⟨unhide C0, unhide HB0⟩
    (fun x => { tmps := #[.slice a len cap, undef, .int .u32 0, .pointer (some ⟨w.heap.size, 0, none⟩), .int .u32 ((x : Nat) : Int), .slice a len cap, .func (.func 51) #[] #[.pointer (some ⟨w.heap.size + 1, 0, none⟩), .pointer (some ⟨w.heap.size + 1 + 1, 0, none⟩)], .int .u32 ((x : Nat) : Int), undef, undef, undef], defers := [] }) ?assign ?body ?done ?stop
  case assign =>
    intro l x W K hK
    gi_wp2
    exact hK
  case body =>
    rintro l pre x W ⟨⟨hc, hf⟩, hB⟩ _
    gi_wp2
    exact ⟨KeepsOthers.setCell _ _ _, (Below.refl w.heap.size W).setCell (p := ⟨w.heap.size, 0, none⟩) (Nat.le_refl _) _, ⟨by rw [last_snoc]; exact World.cell?_setCell_same' _ _ _ (by rw [hc]; rfl), by rw [World.frozen?_setCell]; exact hf⟩, hB.setCell (p := ⟨w.heap.size, 0, none⟩) (Nat.le_refl _) _⟩
  case done =>
    rintro D ys W hD rfl ⟨⟨hc, _⟩, hB⟩ hK
    have hlast : lastOf (comeTo 4294967295 bs len) = regAt crcOnes bs bs.length := by rw [← unhide HN]; exact last_come bs len
    rw [hlast] at hc
    have HF : Hid (bits .xor .u32 IntKind.u32.max ((regAt crcOnes bs bs.length : Nat) : Int) = ((sumB bs : Nat) : Int)) := by
      have := turned _ (reg_lt ones_lt bs bs.length)
      rw [reg_sum] at this
      exact this
    generalize regAt crcOnes bs bs.length = x at *
    have HB := hide hB
    clear hB
    gi_wp2
    refine ⟨by simp, .inl ⟨_, _, rfl, run_takeDeferred hK, ?_⟩⟩
    refine ⟨_, results_tmp rfl _ _ _, ?_⟩
    exact ⟨ret_int (unhide HF), (unhide HB).trans (belowK_b (w := w) (Nat.le_refl _) W D _ _ (by omega) hK rfl rfl)⟩
  case stop =>
    rintro D c pre W _ _ h _
    exact h.elim

end Go.Proofs.Ytbbglgfgelnncaa
