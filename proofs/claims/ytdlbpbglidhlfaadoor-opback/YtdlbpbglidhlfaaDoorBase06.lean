/- ValImplA, ValLaw, ValImplV, ValShow, ValOk, ValBackM, ValImplK: our own definitions and contracts; no statement of the seat is proved here. -/
import Derived.Test.YtdlbpbglidhlfaaDoorBase05
import Derived.Test.YtdlbpbglidhlfaaDoorBase00
import Derived.Defers
import Derived.Recover
import Derived.Deep.RegionHeld3
namespace Go.Proofs.YtdlbpbglidhlfaaDoor
open Go.RowKit

theorem mayBe_any (d c : Nat) (w : World) : Calls Tryd.prog 47 #[.int .i64 ((d : Nat) : Int), .int .i64 ((c : Nat) : Int)] w fun e w' => e = .returned (.bool (decide (d ≤ 6) && decide (c ≤ 200))) ∧ w' = w := by
  by_cases hd : d ≤ 6
  · have hdi : ((d : Nat) : Int) ≤ 6 := by omega
    have HD := hide hd
    clear hd
    by_cases hc : c ≤ 200
    · have hci : ((c : Nat) : Int) ≤ 200 := by omega
      have HC := hide hc
      clear hc
      go_enter Tryd.func47, Tryd.ntmps47
      go_wp2
      go_ret
      exact ⟨ret_bool (by rw [decide_eq_true (unhide HD), decide_eq_true (unhide HC)]; rfl), rfl⟩
    · have hci : ¬ ((c : Nat) : Int) ≤ 200 := by omega
      have HC := hide hc
      clear hc
      go_enter Tryd.func47, Tryd.ntmps47
      go_wp2
      go_ret
      exact ⟨ret_bool (by rw [decide_eq_false (unhide HC)]; simp), rfl⟩
  · have hdi : ¬ ((d : Nat) : Int) ≤ 6 := by omega
    have HD := hide hd
    clear hd
    go_enter Tryd.func47, Tryd.ntmps47
    go_wp2
    go_ret
    exact ⟨ret_bool (by rw [decide_eq_false (unhide HD)]; simp), rfl⟩

/-- A value's cells in a row, written out. -/
theorem VD.Elem.out {B : Nat → Prop} {W : World} {x : VD} {a : Option Addr} {i : Nat} (h : VD.Elem B W x a i) : ∃ (b o K xl ec : Nat) (N : Int) (z : ByteArray) (ea : Option Addr), a = some ⟨b, o, none⟩ ∧ B b ∧ W.cell? ⟨b, o + i * 4, none⟩ = some (.int .u8 ((K : Nat) : Int)) ∧ W.cell? ⟨b, o + i * 4 + 1, none⟩ = some (.int .i64 N) ∧ W.cell? ⟨b, o + i * 4 + 2, none⟩ = some (.string z) ∧ W.cell? ⟨b, o + i * 4 + 3, none⟩ = some (.slice ea xl ec) ∧ x.At B W (.agg #[.int .u8 ((K : Nat) : Int), .int .i64 N, .string z, .slice ea xl ec]) := by
  obtain ⟨b, o, e0, e1, e2, e3, ha, hb, c0, c1, c2, c3, he⟩ := h
  have h0 := he
  rw [VD.at_iff] at h0
  obtain ⟨ea, ec, hu, _⟩ := h0
  simp only [Value.agg.injEq] at hu
  have hu := congrArg Array.toList hu
  simp only [List.cons.injEq, and_true] at hu
  obtain ⟨rfl, rfl, rfl, rfl⟩ := hu
  exact ⟨b, o, x.k, x.l.length, ec, x.n, _, ea, ha, hb, c0, c1, c2, c3, he⟩
/-- The elements of a value that is read so. -/
theorem VD.At.elems {B : Nat → Prop} {W : World} {v : VD} {u0 u1 u2 : Value} {a : Option Addr} {m c : Nat} (h : v.At B W (.agg #[u0, u1, u2, .slice a m c])) : ∀ j (h : j < v.l.length), VD.Elem B W (v.l[j]'h) a j := by
  rw [VD.at_iff] at h
  obtain ⟨a', c', he, _, _, _, _, _, h7⟩ := h
  simp only [Value.agg.injEq] at he
  have he := congrArg Array.toList he
  simp only [List.cons.injEq, Value.slice.injEq] at he
  obtain ⟨_, _, _, ⟨rfl, _⟩, _⟩ := he
  exact h7

/-- Right but for what is in its list. -/
def VD.alone (v : VD) : Bool :=
  (decide (v.k = 0) && (v.s.isEmpty && v.l.isEmpty)) || (decide (v.k = 1) && (decide (v.s.length ≤ 100) && decide (v.n = 0) && v.l.isEmpty)) || (decide (v.k = 2) && (decide (v.l.length ≤ 40) && decide (v.n = 0) && v.s.isEmpty))
theorem VD.kindsL_nil {v : VD} (h : v.l.isEmpty = true) : VD.kindsL v.l = true := by rw [List.isEmpty_iff.1 h]; rfl
theorem VD.kinds_alone (v : VD) : v.kinds = (v.alone && VD.kindsL v.l) := by
  have hnil := @VD.kindsL_nil v
  rw [VD.alone]
  by_cases h0 : v.k = 0
  · rw [VD.kinds_0 h0, decide_eq_true h0, decide_eq_false (by omega : ¬ v.k = 1), decide_eq_false (by omega : ¬ v.k = 2)]
    revert hnil
    cases v.s.isEmpty <;> cases v.l.isEmpty <;> cases VD.kindsL v.l <;> simp
  by_cases h1 : v.k = 1
  · rw [VD.kinds_1 h1, decide_eq_true h1, decide_eq_false (by omega : ¬ v.k = 0), decide_eq_false (by omega : ¬ v.k = 2)]
    revert hnil
    cases decide (v.n = 0) <;> cases v.l.isEmpty <;> cases decide (v.s.length ≤ 100) <;> cases VD.kindsL v.l <;> simp
  by_cases h2 : v.k = 2
  · rw [VD.kinds_2 h2, decide_eq_true h2, decide_eq_false (by omega : ¬ v.k = 0), decide_eq_false (by omega : ¬ v.k = 1)]
    clear hnil
    cases decide (v.n = 0) <;> cases v.s.isEmpty <;> cases decide (v.l.length ≤ 40) <;> cases VD.kindsL v.l <;> simp
  rw [VD.kinds_3 h0 h1 h2, decide_eq_false h0, decide_eq_false h1, decide_eq_false h2]
  simp

theorem within_any (a : Option Addr) (c K n : Nat) (N : Int) (z : ByteArray) (d : Nat) (hd : d < 65536) (w : World) : Calls Tryd.prog 56 #[.agg #[.int .u8 ((K : Nat) : Int), .int .i64 N, .string z, .slice a n c], .int .i64 ((d : Nat) : Int)] w fun e w' => e = .returned (.slice a n c) ∧ Below w.heap.size w w' := by
  have hdi : ¬ ((d : Nat) : Int) ≥ 65536 := by omega
  have HB1 : Hid (Below w.heap.size w (w.alloc (.cells #[.int .u8 ((K : Nat) : Int), .int .i64 N, .string z, .slice a n c] 24))) := (Below.refl _ w).alloc (Nat.le_refl _) _
  go_enter Tryd.func56, Tryd.ntmps56
  go_wp2
  go_ret
  exact ⟨rfl, unhide HB1⟩

set_option maxRecDepth 100000 in
set_option maxHeartbeats 2000000 in
theorem alone_any (v : VD) (B : Nat → Prop) (u : Value) (w : World) (hA : v.At B w u) : Calls Tryd.prog 48 #[u] w fun e w' => e = .returned (.bool v.alone) ∧ Below w.heap.size w w' := by
  obtain ⟨a, c, rfl, hlc, hbox⟩ := hA.box
  have HBX := hide (hbox 24)
  have HB1 : Hid (Below w.heap.size w (w.alloc (.cells #[.int .u8 ((v.k : Nat) : Int), .int .i64 v.n, .string ⟨v.s.toArray⟩, .slice a v.l.length c] 24))) := (Below.refl _ w).alloc (Nat.le_refl _) _
  clear hA hbox
  obtain ⟨n, hn⟩ : ∃ n, n = v.l.length := ⟨_, rfl⟩
  have HN := hide hn
  rw [← hn] at hlc ⊢ HBX HB1
  clear hn
  have hsz : (⟨v.s.toArray⟩ : ByteArray).size = v.s.length := by simp [ByteArray.size]
  obtain ⟨m, hm⟩ : ∃ m, m = v.s.length := ⟨_, rfl⟩
  rw [← hm] at hsz
  have HMS := hide hm
  have hzl : (⟨v.s.toArray⟩ : ByteArray).toList = v.s := by rw [ByteArray.toList_eq]
  have HZL := hide hzl
  clear hm hzl
  obtain ⟨K, hK⟩ : ∃ K, K = v.k := ⟨_, rfl⟩
  have HK := hide hK
  rw [← hK] at HBX HB1 ⊢
  clear hK
  have hc := (unhide HBX).c0
  have hc1 := (unhide HBX).c1
  have hc2 := (unhide HBX).c2
  have hc3 := (unhide HBX).c3
  rw [← unhide HN] at hc3
  rw [← unhide HK] at hc
  generalize (⟨v.s.toArray⟩ : ByteArray) = z at *
  have HLE : Hid (v.l.isEmpty = decide (n = 0)) := by
    show _ = _
    rw [unhide HN]
    cases v.l <;> simp
  obtain ⟨se, hse⟩ : ∃ se, se = v.s.isEmpty := ⟨_, rfl⟩
  have hze : z.toList.isEmpty = se := by rw [unhide HZL, hse]
  have HSE := hide hse
  obtain ⟨N, hNn⟩ : ∃ N, N = v.n := ⟨_, rfl⟩
  rw [← hNn] at HBX hc1 ⊢ HB1
  have HKD : Hid (v.alone = ((decide (K = 0) && (se && decide (n = 0))) || (decide (K = 1) && (decide (m ≤ 100) && decide (N = 0) && decide (n = 0))) || (decide (K = 2) && (decide (n ≤ 40) && decide (N = 0) && se)))) := by
    show _ = _
    rw [VD.alone, unhide HLE, hse, hNn, unhide HMS, ← unhide HK, unhide HN]
  clear hse hNn HK HMS HSE HLE HZL
  clear HBX
  by_cases h0 : K = 0
  · have g0 : (((K : Nat) : Int) == 0) = true := by rw [beq_iff_eq]; omega
    have HV : Hid (v.alone = (se && decide (n = 0))) := by show _ = _; rw [unhide HKD, h0]; simp
    clear h0
    cases se with
    | false =>
      go_enter Tryd.func48, Tryd.ntmps48
      go_wp2
      go_ret
      exact ⟨ret_bool (by rw [unhide HV]; rfl), unhide HB1⟩
    | true =>
      by_cases hn0 : n = 0
      · have gn : (((n : Nat) : Int) == 0) = true := by rw [beq_iff_eq]; omega
        have HN0 := hide hn0
        clear hn0
        go_enter Tryd.func48, Tryd.ntmps48
        go_wp2
        go_ret
        exact ⟨ret_bool (by rw [unhide HV, decide_eq_true (unhide HN0)]; rfl), unhide HB1⟩
      · have gn : (((n : Nat) : Int) == 0) = false := by rw [beq_eq_false_iff_ne]; omega
        have HN0 := hide hn0
        clear hn0
        go_enter Tryd.func48, Tryd.ntmps48
        go_wp2
        go_ret
        exact ⟨ret_bool (by rw [unhide HV, decide_eq_false (unhide HN0)]; rfl), unhide HB1⟩
  have g0 : (((K : Nat) : Int) == 0) = false := by rw [beq_eq_false_iff_ne]; omega
  by_cases h1 : K = 1
  · have g1 : (((K : Nat) : Int) == 1) = true := by rw [beq_iff_eq]; omega
    have HV : Hid (v.alone = (decide (m ≤ 100) && decide (N = 0) && decide (n = 0))) := by show _ = _; rw [unhide HKD, h1]; simp
    clear h1 h0
    by_cases hm1 : m ≤ 100
    · have gm : ((m : Nat) : Int) ≤ 100 := by omega
      have HM1 := hide hm1
      clear hm1
      by_cases hN0 : N = 0
      · have gN : (N == 0) = true := beq_iff_eq.2 hN0
        have HN0 := hide hN0
        clear hN0
        by_cases hn0 : n = 0
        · have gn : (((n : Nat) : Int) == 0) = true := by rw [beq_iff_eq]; omega
          have Hn0 := hide hn0
          clear hn0
          go_enter Tryd.func48, Tryd.ntmps48
          go_wp2
          go_ret
          exact ⟨ret_bool (by rw [unhide HV, decide_eq_true (unhide HM1), decide_eq_true (unhide HN0), decide_eq_true (unhide Hn0)]; rfl), unhide HB1⟩
        · have gn : (((n : Nat) : Int) == 0) = false := by rw [beq_eq_false_iff_ne]; omega
          have Hn0 := hide hn0
          clear hn0
          go_enter Tryd.func48, Tryd.ntmps48
          go_wp2
          go_ret
          exact ⟨ret_bool (by rw [unhide HV, decide_eq_false (unhide Hn0)]; simp), unhide HB1⟩
      · have gN : (N == 0) = false := beq_eq_false_iff_ne.2 hN0
        have HN0 := hide hN0
        clear hN0
        go_enter Tryd.func48, Tryd.ntmps48
        go_wp2
        go_ret
        exact ⟨ret_bool (by rw [unhide HV, decide_eq_false (unhide HN0)]; simp), unhide HB1⟩
    · have gm : ¬ ((m : Nat) : Int) ≤ 100 := by omega
      have HM1 := hide hm1
      clear hm1
      go_enter Tryd.func48, Tryd.ntmps48
      go_wp2
      go_ret
      exact ⟨ret_bool (by rw [unhide HV, decide_eq_false (unhide HM1)]; simp), unhide HB1⟩
  have g1 : (((K : Nat) : Int) == 1) = false := by rw [beq_eq_false_iff_ne]; omega
  by_cases h2 : K = 2
  · have g2 : (((K : Nat) : Int) == 2) = true := by rw [beq_iff_eq]; omega
    have HV : Hid (v.alone = (decide (n ≤ 40) && decide (N = 0) && se)) := by show _ = _; rw [unhide HKD, h2]; simp
    clear h2 h1 h0
    by_cases hn40 : n ≤ 40
    · have gn : ((n : Nat) : Int) ≤ 40 := by omega
      have HN40 := hide hn40
      clear hn40
      by_cases hN0 : N = 0
      · have gN : (N == 0) = true := beq_iff_eq.2 hN0
        have HN0 := hide hN0
        clear hN0
        cases se with
        | false =>
          go_enter Tryd.func48, Tryd.ntmps48
          go_wp2
          go_ret
          exact ⟨ret_bool (by rw [unhide HV]; simp), unhide HB1⟩
        | true =>
          go_enter Tryd.func48, Tryd.ntmps48
          go_wp2
          go_ret
          exact ⟨ret_bool (by rw [unhide HV, decide_eq_true (unhide HN40), decide_eq_true (unhide HN0)]; rfl), unhide HB1⟩
      · have gN : (N == 0) = false := beq_eq_false_iff_ne.2 hN0
        have HN0 := hide hN0
        clear hN0
        go_enter Tryd.func48, Tryd.ntmps48
        go_wp2
        go_ret
        exact ⟨ret_bool (by rw [unhide HV, decide_eq_false (unhide HN0)]; simp), unhide HB1⟩
    · have gn : ¬ ((n : Nat) : Int) ≤ 40 := by omega
      have HN40 := hide hn40
      clear hn40
      go_enter Tryd.func48, Tryd.ntmps48
      go_wp2
      go_ret
      exact ⟨ret_bool (by rw [unhide HV, decide_eq_false (unhide HN40)]; simp), unhide HB1⟩
  · have g2 : (((K : Nat) : Int) == 2) = false := by rw [beq_eq_false_iff_ne]; omega
    have HV : Hid (v.alone = false) := by show _ = _; rw [unhide HKD, decide_eq_false h0, decide_eq_false h1, decide_eq_false h2]; simp
    clear h2 h1 h0
    go_enter Tryd.func48, Tryd.ntmps48
    go_wp2
    go_ret
    exact ⟨ret_bool (unhide HV).symm, unhide HB1⟩
end Go.Proofs.YtdlbpbglidhlfaaDoor

namespace Go.Proofs.YtdlbpbglidhlfaaDoor
open Go.RowKit

theorem results_cv1 {P : Program} {fn : Func} {p : Tmp} {ty : TypeId} (h : fn.results = #[.cell p ty]) (tmps : Array Value) (w : World) (g : Nat) (t : TypeId) (cs : Array Value) (fr : Nat × Nat) (d : TypeDesc)
    (hp : tmps.getD p undef = .pointer (some ⟨g, 0, none⟩)) (hg : w.heap[g]? = some (.cells cs t fr))
    (hu : P.underlying ty = some d) (hd : (match d with | .struct _ | .array _ _ => true | _ => false) = true) (hi : (P.info? ty).map (·.size) = some cs.size) :
    (results fn tmps).run P w = .ok (.agg cs) w := by
  have hp' : tmps[p]?.getD undef = .pointer (some ⟨g, 0, none⟩) := by simpa using hp
  simp only [results, h]
  simp [hp', asAddr, run_loadVar_row w g t ty cs fr d hg hu hd hi]


end Go.Proofs.YtdlbpbglidhlfaaDoor

namespace Go.Proofs.YtdlbpbglidhlfaaDoor
open Go.RowKit

/-- One part more. -/
theorem Rdr.count {w0 W : World} {g n c p p' : Nat} {a : Option Addr} {bs : List UInt8} (h : Rdr w0 g a n c p bs W) : Rdr w0 g a n c p' bs (W.setCell ⟨g, 1, none⟩ (.int .i64 ((p' : Nat) : Int))) :=
  ⟨h.below.setCell (p := ⟨g, 1, none⟩) h.new _, h.new, heap_setCell_same _ _ _ _ _ _ h.blk, h.bytes, h.len⟩
theorem But.new {g h : Nat} {w W : World} (hb : But g w W) (hh : w.heap.size ≤ h) (o : Nat) (v : Value) : But g w (W.setCell ⟨h, o, none⟩ v) := by
  have b := (Below.refl 0 W).setCell (p := ⟨h, o, none⟩) (Nat.zero_le _) v
  exact ⟨b.os.trans hb.os, b.tape.trans hb.tape, b.output.trans hb.output, by rw [World.size_setCell]; exact hb.size, fun k hk hn => (Below.heap_setCell _ _ _ _ (by show k ≠ h; omega)).trans (hb.block k hk hn)⟩
theorem Rdr.other {w0 W : World} {g n c p h : Nat} {a : Option Addr} {bs : List UInt8} (hr : Rdr w0 g a n c p bs W) (hh : w0.heap.size ≤ h) (hg : g ≠ h) (o : Nat) (v : Value) : Rdr w0 g a n c p bs (W.setCell ⟨h, o, none⟩ v) :=
  ⟨hr.below.setCell (p := ⟨h, o, none⟩) hh _, hr.new, (Below.heap_setCell _ _ _ _ hg).trans hr.blk, hr.bytes, hr.len⟩
/-- A reader beside the struct that is told. -/
structure Rd4 (w0 w : World) (g : Nat) (a : Option Addr) (n c p : Nat) (bs : List UInt8) (W : World) : Prop where
  but : But g w W
  rdr : Rdr w0 g a n c p bs W
  c4 : W.heap[w.heap.size]? = some (.cells #[.int .u8 0, .int .i64 0, .string ⟨#[]⟩, .slice none 0 0] 24 (0, 0))
  gw : g < w.heap.size
theorem Rd4.next {w0 w W W' : World} {g n c p n' c' p' : Nat} {a a' : Option Addr} {bs bs' : List UInt8} (h : Rd4 w0 w g a n c p bs W) (hb : But g W W') (hr : Rdr w0 g a' n' c' p' bs' W') : Rd4 w0 w g a' n' c' p' bs' W' :=
  ⟨h.but.trans hb, hr, (hb.block _ (lt_rowV h.c4) (by have := h.gw; omega)).trans h.c4, h.gw⟩
theorem Rd4.fin {w0 w W : World} {g n c p : Nat} {a : Option Addr} {bs : List UInt8} (h : Rd4 w0 w g a n c p bs W) (x y z u : Value) : But g w ((((W.setCell ⟨w.heap.size, 0, none⟩ x).setCell ⟨w.heap.size, 1, none⟩ y).setCell ⟨w.heap.size, 2, none⟩ z).setCell ⟨w.heap.size, 3, none⟩ u) ∧ Rdr w0 g a n c p bs ((((W.setCell ⟨w.heap.size, 0, none⟩ x).setCell ⟨w.heap.size, 1, none⟩ y).setCell ⟨w.heap.size, 2, none⟩ z).setCell ⟨w.heap.size, 3, none⟩ u) := by
  have h1 : g ≠ w.heap.size := by have := h.gw; omega
  have h2 : w0.heap.size ≤ w.heap.size := by have := h.gw; have := h.rdr.new; omega
  exact ⟨(((h.but.new (Nat.le_refl _) 0 x).new (Nat.le_refl _) 1 y).new (Nat.le_refl _) 2 z).new (Nat.le_refl _) 3 u, (((h.rdr.other h2 h1 0 x).other h2 h1 1 y).other h2 h1 2 z).other h2 h1 3 u⟩
theorem Rd4.cells {w0 w W : World} {g n c p : Nat} {a : Option Addr} {bs : List UInt8} (h : Rd4 w0 w g a n c p bs W) : (W.cell? ⟨w.heap.size, 0, none⟩ = some (.int .u8 0) ∧ W.cell? ⟨w.heap.size, 1, none⟩ = some (.int .i64 0) ∧ W.cell? ⟨w.heap.size, 2, none⟩ = some (.string ⟨#[]⟩) ∧ W.cell? ⟨w.heap.size, 3, none⟩ = some (.slice none 0 0)) ∧ (W.frozen? ⟨w.heap.size, 0, none⟩ = false ∧ W.frozen? ⟨w.heap.size, 1, none⟩ = false ∧ W.frozen? ⟨w.heap.size, 2, none⟩ = false ∧ W.frozen? ⟨w.heap.size, 3, none⟩ = false) := cells4 h.c4

set_option maxRecDepth 100000 in
set_option maxHeartbeats 1000000 in
theorem rValue_step (D : Nat) (hD7 : D ≤ 7) (hLC : D ≤ 6 → ListC (D + 1)) : ValueC D := by
  intro w0 g n c p a bs w hR hp
  have hgw : g < w.heap.size := lt_rowV hR.blk
  have hbl : bs.length = n := (bytes_len hR.bytes).1
  have HBL := hide hbl
  have HLC := hide hLC
  obtain ⟨P, hP⟩ : ∃ P, P = p + 1 := ⟨_, rfl⟩
  have hPi : ((p : Nat) : Int) + 1 = ((P : Nat) : Int) := by omega
  have HPE := hide hP
  obtain ⟨W1, hW1⟩ : ∃ W1, W1 = w.alloc (.cells #[.int .u8 0, .int .i64 0, .string ⟨#[]⟩, .slice none 0 0] 24) := ⟨_, rfl⟩
  have hb1 : Below w.heap.size w W1 := by rw [hW1]; exact (Below.refl _ w).alloc (Nat.le_refl _) _
  have hr1 : W1.heap[w.heap.size]? = some (.cells #[.int .u8 0, .int .i64 0, .string ⟨#[]⟩, .slice none 0 0] 24 (0, 0)) := by rw [hW1]; exact heap_alloc_new w _
  have hR1 := hR.later hb1
  have h41 : Rd4 w0 w g a n c p bs W1 := ⟨But.of hb1, hR1, hr1, hgw⟩
  obtain ⟨W2, hW2⟩ : ∃ W2, W2 = W1.setCell ⟨g, 1, none⟩ (.int .i64 ((P : Nat) : Int)) := ⟨_, rfl⟩
  have hR2 : Rdr w0 g a n c P bs W2 := by rw [hW2]; exact hR1.count
  have H42 : Hid (Rd4 w0 w g a n c P bs W2) := h41.next (by rw [hW2]; exact (But.of (Below.refl _ W1)).set 1 _) hR2
  obtain ⟨b0, b1, e0, e1⟩ := hR1.cells
  obtain ⟨d0, d1, -, -⟩ := hR2.cells
  have HW1 := hide hW1
  have HW2 := hide hW2
  clear hR hgw hbl hLC hb1 hr1 hR1 h41 hR2 hW1 hW2 hP
  go_enter Tryd.func68, Tryd.ntmps68
  go_upto_region 1 with fail
  rw [← unhide HW1]
  clear HW1
  go_upto_region 2 with fail
  rw [← unhide HW2]
  clear HW2 b0 b1 e0 e1
  go_wp2_with fail
  refine (mayBe_any D P _).mono ?_
  rintro e w' ⟨rfl, hw⟩
  rw [hw]
  clear hw w'
  by_cases hmay : D ≤ 6 ∧ P ≤ 200
  case neg =>
    rw [show (decide (D ≤ 6) && decide (P ≤ 200)) = false by rw [Bool.and_eq_false_iff]; simp; omega]
    have HNV : Hid (NoV bs (7 - D) (200 - p)) := by
      show NoV _ _ _
      by_cases h6 : D ≤ 6
      · exact noV_none (by have := unhide HPE; have : ¬ P ≤ 200 := fun h => hmay ⟨h6, h⟩; omega)
      · rw [show 7 - D = 0 by omega]; exact noVal_zero.noV
    clear hmay
    go_wp2_with fail
    refine (need_any false _).mono ?_
    rintro e w2 ⟨rfl, hw⟩
    rw [hw]
    clear hw w2
    exact ⟨rfl, (unhide H42).but, .inr ⟨unhide HNV, rfl⟩⟩
  rw [show (decide (D ≤ 6) && decide (P ≤ 200)) = true by rw [decide_eq_true hmay.1, decide_eq_true hmay.2]; rfl]
  obtain ⟨hD6, hP2⟩ := hmay
  go_wp2_with fail
  refine (need_any true _).mono ?_
  rintro e w2 ⟨rfl, hw⟩
  rw [hw]
  clear hw w2 d0 d1
  go_wp2_with fail
  refine (rNumber_any w0 g n c P a bs W2 (unhide H42).rdr).mono ?_
  rintro e W3 ⟨hu3, ⟨x, k, hr, rfl, hR3⟩ | ⟨hNo, rfl⟩⟩
  case inr =>
    have HNV : Hid (NoV bs (7 - D) (200 - p)) := (noVal_num hNo).noV
    have HU := hide ((unhide H42).but.trans hu3)
    clear hNo hu3
    go_wp2_with fail
    exact ⟨rfl, unhide HU, .inr ⟨unhide HNV, rfl⟩⟩
  have HRD := hide hr
  have H43 := hide ((unhide H42).next hu3 hR3)
  clear hr hu3 hR3 H42
  have hd1 : 7 - D = (7 - (D + 1)) + 1 := by omega
  have HD1 := hide hd1
  clear hd1
  rcases (by omega : x = 0 ∨ x = 1 ∨ x = 2 ∨ (x < 0 ∨ 2 < x)) with rfl | rfl | rfl | hx
  · go_wp2_with fail
    refine (rNumber_any w0 g _ _ P _ _ W3 (unhide H43).rdr).mono ?_
    rintro e W4 ⟨hu4, ⟨y, k2, hr2, rfl, hR4⟩ | ⟨hNo, rfl⟩⟩
    · have H44 := hide ((unhide H43).next hu4 hR4)
      have HVR := hide (vreads_num (d := 7 - D) (unhide HRD) hr2 (by omega))
      have HIY := hide hr2.inr
      clear hr2 hu4 hR4 H43
      obtain ⟨⟨c40, c41, c42, c43⟩, f40, f41, f42, f43⟩ := (unhide H44).cells
      go_wp2_with fail
      refine bodyPost_ret (results_cv1 rfl _ _ _ _ _ _ _ rfl (set4_heap (unhide H44).c4 _ _ _ _) Tryd.underlying24 rfl (by kernel_rfl)) rfl ?_
      obtain ⟨hB, hRF⟩ := (unhide H44).fin (.int .u8 0) (.int .i64 y) (.string ⟨#[]⟩) (.slice none 0 0)
      refine ⟨hB, .inl ⟨.mk 0 y [] [], k + k2, 0, 0, 0, n - k - k2, y, ⟨#[]⟩, none, wcutA (wcutA a n k) (n - k) k2, unhide HVR, ?_, rfl, ?_, by omega, ?_⟩⟩
      · simp only [VD.parts, VD.partsL]; have := unhide HPE; omega
      · rw [VD.at_iff]
        exact ⟨none, 0, rfl, by simp [VD.k], unhide HIY, Nat.zero_le _, Nat.le_refl _, Nat.zero_le _, fun j hj => absurd hj (Nat.not_lt_zero j)⟩
      · rw [List.drop_drop] at hRF
        have e : p + (VD.mk 0 y [] []).parts = P := by simp only [VD.parts, VD.partsL]; have := unhide HPE; omega
        rw [e]
        exact hRF
    · have HNV : Hid (NoV bs (7 - D) (200 - p)) := (noVal_second (unhide HRD) (by decide) hNo).noV
      have HU := hide ((unhide H43).but.trans hu4)
      clear hNo hu4
      go_wp2_with fail
      exact ⟨rfl, unhide HU, .inr ⟨unhide HNV, rfl⟩⟩
  · go_wp2_with fail
    refine (rText_any w0 g _ _ P _ _ W3 (unhide H43).rdr).mono ?_
    rintro e W4 ⟨hu4, ⟨s, k2, a', n', hr2, hn', rfl, hR4⟩ | ⟨hNo, rfl⟩⟩
    · have H44 := hide ((unhide H43).next hu4 hR4)
      have HVR := hide (vreads_text (d := 7 - D) (unhide HRD) hr2 (by omega))
      have HSM : Hid (s.length ≤ maxLen) := by show _ ≤ _; have := hr2.most; unfold maxLen; omega
      have HNE := hide hn'
      clear hr2 hu4 hR4 H43 hn'
      obtain ⟨⟨c40, c41, c42, c43⟩, f40, f41, f42, f43⟩ := (unhide H44).cells
      obtain ⟨z, hz⟩ : ∃ z : ByteArray, z = ⟨s.toArray⟩ := ⟨_, rfl⟩
      rw [← hz]
      have HZ := hide hz
      clear hz
      go_wp2_with fail
      refine bodyPost_ret (results_cv1 rfl _ _ _ _ _ _ _ rfl (set4_heap (unhide H44).c4 _ _ _ _) Tryd.underlying24 rfl (by kernel_rfl)) rfl ?_
      obtain ⟨hB, hRF⟩ := (unhide H44).fin (.int .u8 1) (.int .i64 0) (.string z) (.slice none 0 0)
      refine ⟨hB, .inl ⟨.mk 1 0 s [], k + (k2 + s.length), 1, 0, 0, n', 0, z, none, a', unhide HVR, ?_, rfl, ?_, by have := unhide HNE; omega, ?_⟩⟩
      · simp only [VD.parts, VD.partsL]; have := unhide HPE; omega
      · rw [VD.at_iff]
        exact ⟨none, 0, by rw [unhide HZ]; rfl, by simp [VD.k], by show InR 0; unfold InR; omega, unhide HSM, Nat.le_refl _, Nat.zero_le _, fun j hj => absurd hj (Nat.not_lt_zero j)⟩
      · rw [List.drop_drop] at hRF
        have e : p + (VD.mk 1 0 s []).parts = P := by simp only [VD.parts, VD.partsL]; have := unhide HPE; omega
        rw [e]
        exact hRF
    · have HNV : Hid (NoV bs (7 - D) (200 - p)) := (noVal_text (unhide HRD) hNo).noV
      have HU := hide ((unhide H43).but.trans hu4)
      clear hNo hu4
      go_wp2_with fail
      exact ⟨rfl, unhide HU, .inr ⟨unhide HNV, rfl⟩⟩
  · obtain ⟨D', hD'⟩ : ∃ D', D' = D + 1 := ⟨_, rfl⟩
    have hDi : ((D : Nat) : Int) + 1 = ((D' : Nat) : Int) := by omega
    have HDE := hide hD'
    have HC := hide (unhide HLC hD6 w0 g _ _ P _ _ W3 (unhide H43).rdr hP2)
    rw [← hD'] at HC
    clear hD'
    go_wp2_with fail
    refine (unhide HC).mono ?_
    rintro e W4 ⟨hu4, ⟨l, i, j, m, rc, n', ra, a', hrn, hl40, hLi, hpp, hm, rfl, hvs, hn', hR4⟩ | ⟨hNo, rfl⟩⟩
    · have H44 := hide ((unhide H43).next hu4 hR4)
      rw [unhide HDE] at hLi
      have HVR : Hid (VReads bs (7 - D) (.mk 2 0 [] l) (k + j)) := by
        rw [unhide HD1]
        exact vreads_list2 (unhide HRD) hrn hLi hl40 (by have := unhide HPE; omega)
      have HNE := hide hn'
      have HM := hide hm
      have HPP := hide hpp
      have HVS := hide hvs
      have HWS : Hid (w.heap.size < W3.heap.size) := lt_rowV (unhide H43).c4
      clear hrn hLi hl40 hpp hm hvs hn' hu4 hR4
      obtain ⟨⟨c40, c41, c42, c43⟩, f40, f41, f42, f43⟩ := (unhide H44).cells
      go_wp2_with fail
      refine bodyPost_ret (results_cv1 rfl _ _ _ _ _ _ _ rfl (set4_heap (unhide H44).c4 _ _ _ _) Tryd.underlying24 rfl (by kernel_rfl)) rfl ?_
      obtain ⟨hB, hRF⟩ := (unhide H44).fin (.int .u8 2) (.int .i64 0) (.string ⟨#[]⟩) (.slice ra m rc)
      refine ⟨hB, .inl ⟨.mk 2 0 [] l, k + j, 2, m, rc, n', 0, ⟨#[]⟩, ra, a', unhide HVR, ?_, rfl, ?_, by have := unhide HNE; omega, ?_⟩⟩
      · simp only [VD.parts]; have := unhide HPE; have := unhide HPP; omega
      · have hlt := unhide HWS
        exact (((((unhide HVS).set (p := ⟨w.heap.size, 0, none⟩) hlt (.int .u8 2)).set (p := ⟨w.heap.size, 1, none⟩) hlt (.int .i64 0)).set (p := ⟨w.heap.size, 2, none⟩) hlt (.string ⟨#[]⟩)).set (p := ⟨w.heap.size, 3, none⟩) hlt (.slice ra m rc)).at (k := 2) (n := 0) (s := []) (by omega) (by unfold InR; omega) (Nat.zero_le _) |>.wider fun b hb => by omega
      · rw [List.drop_drop] at hRF
        have e : p + (VD.mk 2 0 [] l).parts = P + VD.partsL l := by simp only [VD.parts]; have := unhide HPE; omega
        rw [e]
        exact hRF
    · have HNV : Hid (NoV bs (7 - D) (200 - p)) := by
        show NoV _ _ _
        rw [unhide HDE] at hNo
        rw [unhide HD1, show 200 - p = (200 - P) + 1 by have := unhide HPE; omega]
        exact noV_list (unhide HRD) hNo
      have HU := hide ((unhide H43).but.trans hu4)
      clear hNo hu4
      go_wp2_with fail
      exact ⟨rfl, unhide HU, .inr ⟨unhide HNV, rfl⟩⟩
  · have HNV : Hid (NoV bs (7 - D) (200 - p)) := (noVal_kind (unhide HRD) hx).noV
    have x0 : (x == 0) = false := by rw [beq_eq_false_iff_ne]; omega
    have x1 : (x == 1) = false := by rw [beq_eq_false_iff_ne]; omega
    have x2 : (x == 2) = false := by rw [beq_eq_false_iff_ne]; omega
    clear hx
    go_wp2
    exact ⟨rfl, (unhide H43).but, .inr ⟨unhide HNV, rfl⟩⟩

theorem rValue_any : ∀ (f D : Nat), f = 7 - D → D ≤ 7 → ValueC D
  | 0, D, h, hD => rValue_step D hD fun h6 => by omega
  | f + 1, D, h, hD => rValue_step D hD fun _ => rList_step (D + 1) (rValue_any f (D + 1) (by omega) (by omega))
end Go.Proofs.YtdlbpbglidhlfaaDoor

namespace Go.Proofs.YtdlbpbglidhlfaaDoor

/-- A digit of a number below 16. -/
def dgt (x : Nat) : UInt8 := UInt8.ofNat (if x < 10 then 48 + x else 55 + x)
/-- A number's digits. -/
def decs (u : Nat) : List UInt8 := if u < 10 then [dgt u] else decs (u / 10) ++ [dgt (u % 10)]
termination_by u
decreasing_by omega
theorem decs_low {u : Nat} (h : u < 10) : decs u = [dgt u] := by rw [decs, if_pos h]
theorem decs_high {u : Nat} (h : 10 ≤ u) : decs u = decs (u / 10) ++ [dgt (u % 10)] := by rw [decs, if_neg (by omega)]
/-- A byte of a text. -/
def escB (c : UInt8) : List UInt8 := if c.toNat < 33 ∨ 126 < c.toNat ∨ c.toNat = 34 ∨ c.toNat = 37 then [37, dgt (c.toNat / 16), dgt (c.toNat % 16)] else [c]
/-- An integer's digits. -/
def decI (n : Int) : List UInt8 := if n < 0 then 45 :: decs (-n).toNat else decs n.toNat

mutual
def VD.shown : VD → List UInt8
  | .mk 0 n _ _ => decI n
  | .mk 1 _ s _ => 34 :: (s.flatMap escB ++ [34])
  | .mk _ _ _ l => 91 :: (VD.shownL true l ++ [93])
/-- A list's values: a comma ahead of each but the first one. -/
def VD.shownL : Bool → List VD → List UInt8
  | _, [] => []
  | f, x :: r => (if f then [] else [44]) ++ (x.shown ++ VD.shownL false r)
end
theorem VD.shownL_snoc (l : List VD) (x : VD) : ∀ f, VD.shownL f (l ++ [x]) = VD.shownL f l ++ ((if f && l.isEmpty then [] else [44]) ++ x.shown) := by
  induction l with
  | nil => intro f; simp [VD.shownL]
  | cons y l ih =>
    intro f
    simp only [List.cons_append, VD.shownL]
    rw [ih false]
    simp [List.append_assoc]

theorem dgt_toNat {x : Nat} (h : x < 16) : (dgt x).toNat = if x < 10 then 48 + x else 55 + x := by unfold dgt; split <;> rw [u8_toNat (by omega)]
theorem dgt_inj {x y : Nat} (hx : x < 16) (hy : y < 16) (h : dgt x = dgt y) : x = y := by
  have := congrArg UInt8.toNat h
  rw [dgt_toNat hx, dgt_toNat hy] at this
  split at this <;> split at this <;> omega
/-- Digits are from 48 to 57. -/
def IsDig (c : UInt8) : Prop := 48 ≤ c.toNat ∧ c.toNat ≤ 57
theorem dgt_dig {x : Nat} (h : x < 10) : IsDig (dgt x) := by unfold IsDig; rw [dgt_toNat (by omega), if_pos h]; omega
theorem decs_dig (u : Nat) : ∀ c ∈ decs u, IsDig c := by
  induction u using Nat.strongRecOn with
  | ind u ih =>
    by_cases h : u < 10
    · rw [decs_low h]; intro c hc; rw [List.mem_singleton.1 hc]; exact dgt_dig h
    · rw [decs_high (by omega)]
      intro c hc
      rcases List.mem_append.1 hc with h1 | h1
      · exact ih _ (by omega) c h1
      · rw [List.mem_singleton.1 h1]; exact dgt_dig (by omega)
theorem decs_ne (u : Nat) : decs u ≠ [] := by
  by_cases h : u < 10
  · rw [decs_low h]; simp
  · rw [decs_high (by omega)]; simp
/-- What digits are worth. -/
def decV (l : List UInt8) : Nat := l.foldl (fun s c => 10 * s + (c.toNat - 48)) 0
theorem decV_decs (u : Nat) : decV (decs u) = u := by
  induction u using Nat.strongRecOn with
  | ind u ih =>
    by_cases h : u < 10
    · rw [decs_low h]; simp only [decV, List.foldl_cons, List.foldl_nil]; rw [dgt_toNat (by omega), if_pos h]; omega
    · rw [decs_high (by omega)]
      have h1 := ih (u / 10) (by omega)
      unfold decV at *
      rw [List.foldl_append, h1]
      simp only [List.foldl_cons, List.foldl_nil]
      rw [dgt_toNat (by omega), if_pos (by omega)]
      omega
theorem decs_inj {u v : Nat} (h : decs u = decs v) : u = v := by rw [← decV_decs u, h, decV_decs]

/-- What may stand behind what is shown. -/
def Ends (r : List UInt8) : Prop := r = [] ∨ ∃ c t, r = c :: t ∧ (c = 44 ∨ c = 93)
theorem Ends.noDig {r : List UInt8} (h : Ends r) : ∀ c t, r = c :: t → ¬ IsDig c := by
  rintro c t rfl
  rcases h with h | ⟨c', t', h, hc⟩
  · cases h
  · cases h
    rcases hc with rfl | rfl <;> unfold IsDig <;> decide
theorem digs_part : ∀ {p q r s : List UInt8}, (∀ c ∈ p, IsDig c) → (∀ c ∈ q, IsDig c) → (∀ c t, r = c :: t → ¬ IsDig c) → (∀ c t, s = c :: t → ¬ IsDig c) → p ++ r = q ++ s → p = q ∧ r = s
  | [], [], r, s, _, _, _, _, h => ⟨rfl, by simpa using h⟩
  | [], c :: q, r, s, _, hq, hr, _, h => absurd (hq c (by simp)) (hr c (q ++ s) (by simpa using h))
  | c :: p, [], r, s, hp, _, _, hs, h => absurd (hp c (by simp)) (hs c (p ++ r) (by simpa using h.symm))
  | c :: p, d :: q, r, s, hp, hq, hr, hs, h => by
    simp only [List.cons_append, List.cons.injEq] at h
    obtain ⟨h1, h2⟩ := digs_part (fun x hx => hp x (by simp [hx])) (fun x hx => hq x (by simp [hx])) hr hs h.2
    exact ⟨by rw [h.1, h1], h2⟩
theorem decI_head (n : Int) : ∃ c t, decI n = c :: t ∧ (c = 45 ∨ IsDig c) := by
  unfold decI
  split
  · exact ⟨45, _, rfl, .inl rfl⟩
  · have h := decs_ne n.toNat
    have hd := decs_dig n.toNat
    generalize decs n.toNat = l at *
    match l, h with
    | c :: t, _ => exact ⟨c, t, rfl, .inr (hd c (by simp))⟩
theorem decI_part {m n : Int} {r s : List UInt8} (hr : Ends r) (hs : Ends s) (h : decI m ++ r = decI n ++ s) : m = n ∧ r = s := by
  have n45 : ¬ IsDig 45 := by unfold IsDig; decide
  have hhd : ∀ u : Nat, ∃ c t, decs u = c :: t ∧ IsDig c := fun u => by
    have h := decs_ne u
    have hd := decs_dig u
    generalize decs u = l at *
    match l, h with
    | c :: t, _ => exact ⟨c, t, rfl, hd c (by simp)⟩
  unfold decI at h
  split at h <;> split at h
  · simp only [List.cons_append, List.cons.injEq, true_and] at h
    obtain ⟨h1, h2⟩ := digs_part (decs_dig _) (decs_dig _) hr.noDig hs.noDig h
    have := decs_inj h1
    exact ⟨by omega, h2⟩
  · obtain ⟨c, t, e, hc⟩ := hhd n.toNat
    rw [e] at h
    simp only [List.cons_append, List.cons.injEq] at h
    rw [← h.1] at hc
    exact absurd hc n45
  · obtain ⟨c, t, e, hc⟩ := hhd m.toNat
    rw [e] at h
    simp only [List.cons_append, List.cons.injEq] at h
    rw [h.1] at hc
    exact absurd hc n45
  · obtain ⟨h1, h2⟩ := digs_part (decs_dig _) (decs_dig _) hr.noDig hs.noDig h
    have := decs_inj h1
    exact ⟨by omega, h2⟩

theorem escB_head (c : UInt8) : ∃ d t, escB c = d :: t ∧ d.toNat ≠ 34 := by
  unfold escB
  split
  · exact ⟨37, _, rfl, by decide⟩
  · rename_i h
    exact ⟨c, [], rfl, fun e => h (.inr (.inr (.inl e)))⟩
theorem escB_part {c d : UInt8} {r s : List UInt8} (h : escB c ++ r = escB d ++ s) : c = d ∧ r = s := by
  have hc := c.toNat_lt
  have hd := d.toNat_lt
  unfold escB at h
  split at h <;> split at h
  · simp only [List.cons_append, List.nil_append, List.cons.injEq, true_and] at h
    have h1 := dgt_inj (by omega) (by omega) h.1
    have h2 := dgt_inj (by omega) (by omega) h.2.1
    exact ⟨UInt8.toNat_inj.1 (by omega), h.2.2⟩
  · rename_i h1 h2
    simp only [List.cons_append, List.nil_append, List.cons.injEq] at h
    have := congrArg UInt8.toNat h.1
    have e : (37 : UInt8).toNat = 37 := rfl
    omega
  · rename_i h1 h2
    simp only [List.cons_append, List.nil_append, List.cons.injEq] at h
    have := congrArg UInt8.toNat h.1
    have e : (37 : UInt8).toNat = 37 := rfl
    omega
  · simpa using h
theorem text_part : ∀ {s t : List UInt8} {r q : List UInt8}, s.flatMap escB ++ 34 :: r = t.flatMap escB ++ 34 :: q → s = t ∧ r = q
  | [], [], r, q, h => ⟨rfl, by simpa using h⟩
  | [], d :: t, r, q, h => by
    obtain ⟨x, y, e, hx⟩ := escB_head d
    rw [List.flatMap_cons, e] at h
    simp only [List.flatMap_nil, List.nil_append, List.cons_append, List.cons.injEq] at h
    exact absurd (by rw [← h.1]; rfl) hx
  | c :: s, [], r, q, h => by
    obtain ⟨x, y, e, hx⟩ := escB_head c
    rw [List.flatMap_cons, e] at h
    simp only [List.flatMap_nil, List.nil_append, List.cons_append, List.cons.injEq] at h
    exact absurd (by rw [h.1]; rfl) hx
  | c :: s, d :: t, r, q, h => by
    simp only [List.flatMap_cons, List.append_assoc] at h
    obtain ⟨rfl, h2⟩ := escB_part h
    obtain ⟨rfl, h3⟩ := text_part h2
    exact ⟨rfl, h3⟩

/-- Unlike values are shown unlike. -/
theorem VD.shown_part (v : VD) : ∀ (w : VD) (r q : List UInt8), v.kinds = true → w.kinds = true → Ends r → Ends q → v.shown ++ r = w.shown ++ q → v = w ∧ r = q := by
  induction v using VD.induct with
  | h v ih =>
    have hl : ∀ (l : List VD), (∀ x ∈ l, ∀ (w : VD) (r q : List UInt8), x.kinds = true → w.kinds = true → Ends r → Ends q → x.shown ++ r = w.shown ++ q → x = w ∧ r = q) → ∀ (p : List VD) (f : Bool) (r q : List UInt8), (∀ x ∈ l, x.kinds = true) → (∀ x ∈ p, x.kinds = true) → VD.shownL f l ++ 93 :: r = VD.shownL f p ++ 93 :: q → l = p ∧ r = q := by
      have hd : ∀ (x : VD), x.kinds = true → ∃ c t, x.shown = c :: t ∧ c ≠ 93 ∧ c ≠ 44 := fun x hx => by
        rcases VD.kinds_cases hx with ⟨n, rfl⟩ | ⟨s, rfl, _⟩ | ⟨l, rfl, _⟩
        · obtain ⟨c, t, e, hc⟩ := decI_head n
          refine ⟨c, t, by rw [VD.shown]; exact e, ?_, ?_⟩ <;> rintro rfl <;> rcases hc with hc | hc
          · cases hc
          · unfold IsDig at hc; exact absurd hc (by decide)
          · cases hc
          · unfold IsDig at hc; exact absurd hc (by decide)
        · exact ⟨34, _, by rw [VD.shown], by decide, by decide⟩
        · exact ⟨91, VD.shownL true l ++ [93], rfl, by decide, by decide⟩
      have he : ∀ (l : List VD) (r : List UInt8), Ends (VD.shownL false l ++ 93 :: r) := fun l r => by
        cases l with
        | nil => exact .inr ⟨93, r, by simp [VD.shownL], .inr rfl⟩
        | cons x l => exact .inr ⟨44, _, by simp [VD.shownL]; rfl, .inl rfl⟩
      intro l
      induction l with
      | nil =>
        intro _ p f r q _ hp h
        cases p with
        | nil => exact ⟨rfl, by simpa [VD.shownL] using h⟩
        | cons y p =>
          obtain ⟨c, t, e, h1, h2⟩ := hd y (hp y (by simp))
          cases f <;> simp [VD.shownL, e] at h
          exact absurd h.1.symm h1
      | cons x l ih2 =>
        intro hx p f r q hk hp h
        cases p with
        | nil =>
          obtain ⟨c, t, e, h1, h2⟩ := hd x (hk x (by simp))
          cases f <;> simp [VD.shownL, e] at h
          exact absurd h.1 h1
        | cons y p =>
          have h' : x.shown ++ (VD.shownL false l ++ 93 :: r) = y.shown ++ (VD.shownL false p ++ 93 :: q) := by
            cases f <;> simpa [VD.shownL, List.append_assoc] using h
          obtain ⟨rfl, h2⟩ := hx x (by simp) y _ _ (hk x (by simp)) (hp y (by simp)) (he l r) (he p q) h'
          obtain ⟨rfl, h3⟩ := ih2 (fun z hz => hx z (by simp [hz])) p false r q (fun z hz => hk z (by simp [hz])) (fun z hz => hp z (by simp [hz])) h2
          exact ⟨rfl, h3⟩
    intro w r q hv hw hr hq h
    have hno : ∀ n : Int, ∃ c t, decI n = c :: t ∧ c ≠ 34 ∧ c ≠ 91 := fun n => by
      obtain ⟨c, t, e, hc⟩ := decI_head n
      refine ⟨c, t, e, ?_, ?_⟩ <;> rintro rfl <;> rcases hc with hc | hc
      · cases hc
      · unfold IsDig at hc; exact absurd hc (by decide)
      · cases hc
      · unfold IsDig at hc; exact absurd hc (by decide)
    have e2 : ∀ l : List VD, VD.shown (.mk 2 0 [] l) = 91 :: (VD.shownL true l ++ [93]) := fun _ => rfl
    rcases VD.kinds_cases hv with ⟨n, rfl⟩ | ⟨s, rfl, hs⟩ | ⟨l, rfl, hll, hk⟩ <;> rcases VD.kinds_cases hw with ⟨n', rfl⟩ | ⟨s', rfl, hs'⟩ | ⟨l', rfl, hll', hk'⟩
    · simp only [VD.shown] at h
      obtain ⟨rfl, rfl⟩ := decI_part hr hq h
      exact ⟨rfl, rfl⟩
    · obtain ⟨c, t, e, h1, h2⟩ := hno n
      simp only [VD.shown, e, List.cons_append, List.cons.injEq] at h
      exact absurd h.1 h1
    · obtain ⟨c, t, e, h1, h2⟩ := hno n
      rw [e2] at h
      simp only [VD.shown, e, List.cons_append, List.cons.injEq] at h
      exact absurd h.1 h2
    · obtain ⟨c, t, e, h1, h2⟩ := hno n'
      simp only [VD.shown, e, List.cons_append, List.cons.injEq] at h
      exact absurd h.1.symm h1
    · simp only [VD.shown, List.cons_append, List.cons.injEq, true_and, List.append_assoc, List.nil_append] at h
      obtain ⟨rfl, rfl⟩ := text_part h
      exact ⟨rfl, rfl⟩
    · rw [e2] at h
      simp only [VD.shown, List.cons_append, List.cons.injEq] at h
      exact absurd h.1 (by decide)
    · obtain ⟨c, t, e, h1, h2⟩ := hno n'
      rw [e2] at h
      simp only [VD.shown, e, List.cons_append, List.cons.injEq] at h
      exact absurd h.1.symm h2
    · rw [e2] at h
      simp only [VD.shown, List.cons_append, List.cons.injEq] at h
      exact absurd h.1 (by decide)
    · rw [e2, e2] at h
      simp only [List.cons_append, List.cons.injEq, true_and, List.append_assoc, List.nil_append] at h
      obtain ⟨rfl, rfl⟩ := hl l ih l' true r q hk hk' h
      exact ⟨rfl, rfl⟩
end Go.Proofs.YtdlbpbglidhlfaaDoor

namespace Go.Proofs.YtdlbpbglidhlfaaDoor
open Go.RowKit

/-- A value that the statements ask of: no deeper than 20, of at most 600 parts. -/
def VD.Light (v : VD) : Prop := v.deep ≤ 20 ∧ v.parts ≤ 600
theorem VReads.light {b : List UInt8} {d j : Nat} {v : VD} (h : VReads b d v j) (hd : d ≤ 20) : v.Light := ⟨Nat.le_trans h.deep hd, Nat.le_trans h.parts (by omega)⟩

/-- What Take tells, in memory. -/
def TookVM (w : World) (n : Nat) (bs : List UInt8) (e : Ending) (W : World) : Prop :=
  (∃ (v : VD) (j : Nat) (u : Value) (ra : Option Addr) (rc : Nat), VReads bs 6 v j ∧ v.At (fun k => w.heap.size ≤ k) W u ∧ Bytes W (.slice ra (n - j) rc) (bs.drop j) ∧ e = .returned (.tuple #[u, .slice ra (n - j) rc, .int .i64 0])) ∨
  (NoVal bs 6 ∧ e = .returned (.tuple #[zeroV, .slice none 0 0, .int .i64 30]))
/-- What Parse tells, in memory. -/
def ParsedV (w : World) (bs : List UInt8) (e : Ending) (W : World) : Prop :=
  (∃ (v : VD) (u : Value), VReads bs 6 v bs.length ∧ v.At (fun k => w.heap.size ≤ k) W u ∧ e = .returned (.tuple #[u, .int .i64 0])) ∨
  ((∀ v, ¬ VReads bs 6 v bs.length) ∧ e = .returned (.tuple #[zeroV, .int .i64 30]))


end Go.Proofs.YtdlbpbglidhlfaaDoor

namespace Go.Proofs.YtdlbpbglidhlfaaDoor

theorem right_parts {v : VD} (h : v.right = true) : v.kinds = true ∧ v.deep ≤ 6 ∧ v.parts ≤ 200 := by
  unfold VD.right at h
  simp only [Bool.and_eq_true, decide_eq_true_eq] at h
  exact ⟨h.1.1, h.1.2, h.2⟩
theorem vreads_right {v : VD} (r : List UInt8) (h : v.right = true) (hf : v.Fits) : VReads (v.bytes ++ r) 6 v v.bytes.length :=
  VReads.of (right_parts h).1 (right_parts h).2.1 (right_parts h).2.2 hf rfl
theorem VReads.right {b : List UInt8} {v : VD} {j : Nat} (h : VReads b 6 v j) : v.right = true := by
  unfold VD.right
  rw [h.kinds, decide_eq_true h.deep, decide_eq_true h.parts]
  rfl
theorem VReads.taken {b : List UInt8} {d : Nat} {v : VD} {j : Nat} (h : VReads b d v j) : b.take j = v.bytes := by
  rw [h.eq, h.len, List.take_left' rfl]
theorem noVal_less {v : VD} {i d : Nat} (hv : v.kinds = true) (h : i < v.bytes.length) : NoVal (v.bytes.take i) d := fun v' j hr => by
  have e := hr.eq
  have h2 : v'.bytes ++ ((v.bytes.take i).drop j ++ v.bytes.drop i) = v.bytes ++ [] := by
    rw [← List.append_assoc, ← e, List.take_append_drop, List.append_nil]
  obtain ⟨_, h3⟩ := VD.bytes_prefix v' v _ _ hr.kinds hv h2
  have h4 := congrArg List.length h3
  simp only [List.length_append, List.length_drop, List.length_nil] at h4
  omega
/-- Unlike right values have unlike bytes. -/
theorem bytes_part {v w : VD} (hv : v.right = true) (hw : w.right = true) : v.bytes = w.bytes ↔ v = w := by
  constructor
  · intro h
    exact (VD.bytes_prefix v w [] [] (right_parts hv).1 (right_parts hw).1 (by rw [h])).1
  · intro h
    rw [h]
end Go.Proofs.YtdlbpbglidhlfaaDoor

namespace Go.Proofs.YtdlbpbglidhlfaaDoor
open Go.RowKit

theorem catch_panicking (p : Addr) (x : Int) (u : TypeId) (pv : Value) (older : List PanicEntry) (w : World) (hc : w.cell? p = some (.int .i64 x)) (hz : w.frozen? p = false) :
    CallsD Tryd.prog 67 #[.pointer (some p)] (.panicking ({ v := .iface u pv, recovered := false } :: older)) w fun e u' w' =>
      e = .returned (.tuple #[]) ∧ u' = .panicking ({ v := .iface u pv, recovered := true } :: older) ∧ w' = w.setCell p (.int .i64 30) := by
  refine callsD_of_wpS Tryd.func67 rfl fun c₀ cs hu => ?_
  apply wpS_seq
  apply wpS_region
  simp [wpOpsS, go_sem, recoverD, hu, Tryd.ntmps67, Exit.thenS]
  refine wpS_cond (t := true) (by simp [Act.eval, Array.replicate]) ?_
  simp only [if_true]
  apply wpS_region
  simp [wpOpsS, go_sem, hc, hz, bodyPostS, results, Tryd.results67]

theorem catch_idle (p : Addr) (w : World) :
    CallsD Tryd.prog 67 #[.pointer (some p)] .returning w fun e u' w' => e = .returned (.tuple #[]) ∧ u' = .returning ∧ w' = w := by
  refine callsD_of_wpS Tryd.func67 rfl fun c₀ cs hu => ?_
  apply wpS_seq
  apply wpS_region
  simp [wpOpsS, go_sem, recoverD, hu, Tryd.ntmps67, Exit.thenS]
  refine wpS_cond (t := false) (by simp [Act.eval, Array.replicate]) ?_
  simp only [Bool.false_eq_true, if_false]
  refine wpS_of_wp (wp_skip ?_)
  cases c₀
  simp_all [bodyPostS, results, Tryd.results67]

theorem results_ctc {P : Program} {fn : Func} {p q u : Tmp} {ty ty2 : TypeId} (h : fn.results = #[.cell p ty, .tmp u, .cell q ty2]) (tmps : Array Value) (w : World) (g g2 : Nat) (t : TypeId) (cs : Array Value) (fr : Nat × Nat) (d : TypeDesc) (x : Value)
    (hp : tmps.getD p undef = .pointer (some ⟨g, 0, none⟩)) (hg : w.heap[g]? = some (.cells cs t fr))
    (hu : P.underlying ty = some d) (hd : (match d with | .struct _ | .array _ _ => true | _ => false) = true) (hi : (P.info? ty).map (·.size) = some cs.size)
    (hq : tmps.getD q undef = .pointer (some ⟨g2, 0, none⟩)) (hx : (loadVar ty2 ⟨g2, 0, none⟩).run P w = .ok x w) :
    (results fn tmps).run P w = .ok (.tuple #[.agg cs, tmps.getD u undef, x]) w := by
  have hp' : tmps[p]?.getD undef = .pointer (some ⟨g, 0, none⟩) := by simpa using hp
  have hq' : tmps[q]?.getD undef = .pointer (some ⟨g2, 0, none⟩) := by simpa using hq
  simp only [results, h]
  simp [Result.andThen, hp', hq', asAddr, run_loadVar_row w g t ty cs fr d hg hu hd hi, hx]
theorem load_errno {w : World} {g : Nat} {x : Int} (h : w.cell? ⟨g, 0, none⟩ = some (.int .i64 x)) : (loadVar 31 ⟨g, 0, none⟩).run Tryd.prog w = .ok (.int .i64 x) w := by
  simp [go_sem, h]

/-- Behind the reader's value: what is told lies in three blocks. -/
structure TkS (b w : World) (v : VD) (xK xl xc : Nat) (xN : Int) (xz : ByteArray) (xa a' : Option Addr) (n' P : Nat) (bs : List UInt8) (W : World) : Prop where
  h2 : W.heap[w.heap.size]? = some (.cells #[.int .u8 ((xK : Nat) : Int), .int .i64 xN, .string xz, .slice xa xl xc] 24 (0, 0))
  h4 : W.heap[w.heap.size + 1]? = some (.cells #[.int .i64 0] 31 (0, 0))
  val : v.At (fun k => w.heap.size + 3 ≤ k) W (.agg #[.int .u8 ((xK : Nat) : Int), .int .i64 xN, .string xz, .slice xa xl xc])
  rdr : Rdr b (w.heap.size + 2) a' n' n' P bs W
  le : b.heap.size ≤ w.heap.size
  bel : Below w.heap.size w W
section
variable {b w W : World} {v : VD} {xK xl xc n' P : Nat} {xN : Int} {xz : ByteArray} {xa a' : Option Addr} {bs : List UInt8}
theorem TkS.setE (h : TkS b w v xK xl xc xN xz xa a' n' P bs W) : TkS b w v xK xl xc xN xz xa a' n' P bs (W.setCell ⟨w.heap.size + 1, 0, none⟩ (.int .i64 0)) :=
  ⟨(Below.heap_setCell _ _ _ _ (by show w.heap.size ≠ w.heap.size + 1; omega)).trans h.h2, heap_setCell_same _ _ _ _ _ _ h.h4, h.val.kept (fun k hk _ => Below.heap_setCell _ _ _ _ (by show k ≠ w.heap.size + 1; omega)) (fun _ hk _ => hk), h.rdr.other (by have := h.le; omega) (by omega) 0 _, h.le, h.bel.setCell (p := ⟨w.heap.size + 1, 0, none⟩) (by show w.heap.size ≤ w.heap.size + 1; omega) _⟩
theorem set4_other {W : World} {g k : Nat} (x y z u : Value) (hk : k ≠ g) : ((((W.setCell ⟨g, 0, none⟩ x).setCell ⟨g, 1, none⟩ y).setCell ⟨g, 2, none⟩ z).setCell ⟨g, 3, none⟩ u).heap[k]? = W.heap[k]? := by
  rw [Below.heap_setCell _ _ _ _ hk, Below.heap_setCell _ _ _ _ hk, Below.heap_setCell _ _ _ _ hk, Below.heap_setCell _ _ _ _ hk]
theorem TkS.setS {v0 v1 v2 v3 : Value} (h2 : W.heap[w.heap.size]? = some (.cells #[v0, v1, v2, v3] 24 (0, 0))) (h4 : W.heap[w.heap.size + 1]? = some (.cells #[.int .i64 0] 31 (0, 0))) (hv : v.At (fun k => w.heap.size + 3 ≤ k) W (.agg #[.int .u8 ((xK : Nat) : Int), .int .i64 xN, .string xz, .slice xa xl xc])) (hr : Rdr b (w.heap.size + 2) a' n' n' P bs W) (hle : b.heap.size ≤ w.heap.size) (hbe : Below w.heap.size w W) :
    TkS b w v xK xl xc xN xz xa a' n' P bs ((((W.setCell ⟨w.heap.size, 0, none⟩ (.int .u8 ((xK : Nat) : Int))).setCell ⟨w.heap.size, 1, none⟩ (.int .i64 xN)).setCell ⟨w.heap.size, 2, none⟩ (.string xz)).setCell ⟨w.heap.size, 3, none⟩ (.slice xa xl xc)) :=
  ⟨set4_heap h2 _ _ _ _, (set4_other _ _ _ _ (by omega)).trans h4, hv.kept (fun k hk _ => set4_other _ _ _ _ (by omega)) (fun _ hk _ => hk), (((hr.other hle (by omega) 0 _).other hle (by omega) 1 _).other hle (by omega) 2 _).other hle (by omega) 3 _, hle, (((hbe.setCell (p := ⟨w.heap.size, 0, none⟩) (Nat.le_refl _) _).setCell (p := ⟨w.heap.size, 1, none⟩) (Nat.le_refl _) _).setCell (p := ⟨w.heap.size, 2, none⟩) (Nat.le_refl _) _).setCell (p := ⟨w.heap.size, 3, none⟩) (Nat.le_refl _) _⟩
theorem TkS.drew (h : TkS b w v xK xl xc xN xz xa a' n' P bs W) : TkS b w v xK xl xc xN xz xa a' n' P bs W.drew :=
  ⟨h.h2, h.h4, h.val.later ((Below.refl _ _).drew), h.rdr.later ((Below.refl _ _).drew), h.le, h.bel.drew⟩
theorem TkS.again (h : TkS b w v xK xl xc xN xz xa a' n' P bs W) : TkS b w v xK xl xc xN xz xa a' n' P bs ((((W.setCell ⟨w.heap.size, 0, none⟩ (.int .u8 ((xK : Nat) : Int))).setCell ⟨w.heap.size, 1, none⟩ (.int .i64 xN)).setCell ⟨w.heap.size, 2, none⟩ (.string xz)).setCell ⟨w.heap.size, 3, none⟩ (.slice xa xl xc)) := TkS.setS h.h2 h.h4 h.val h.rdr h.le h.bel
end

/-- What Take tells, in memory: what is behind reads so in any world ahead in which what came in does. -/
def TookVB (b w : World) (n : Nat) (bs : List UInt8) (e : Ending) (W : World) : Prop :=
  (∃ (v : VD) (j : Nat) (u : Value) (ra : Option Addr) (rc : Nat), VReads bs 6 v j ∧ v.At (fun k => w.heap.size ≤ k) W u ∧ Bytes b (.slice ra (n - j) rc) (bs.drop j) ∧ e = .returned (.tuple #[u, .slice ra (n - j) rc, .int .i64 0])) ∨
  (NoVal bs 6 ∧ e = .returned (.tuple #[zeroV, .slice none 0 0, .int .i64 30]))
set_option maxRecDepth 100000 in
set_option maxHeartbeats 1000000 in
theorem vTakeB_any (a : Option Addr) (n c : Nat) (bs : List UInt8) (b w : World) (hbw : Below b.heap.size b w) (h : Bytes b (.slice a n c) bs) (hn : n ≤ 1048576) : Calls Tryd.prog 42 #[.slice a n c] w fun e w' => TookVB b w n bs e w' ∧ Below w.heap.size w w' := by
  have hmf : ∀ (fn : Fn) (first cap : Array Value) (w : World), (Instr.makeFunc fn first cap).run Tryd.prog w = .ok (.func fn first cap) w := fun _ _ _ _ => rfl
  obtain ⟨W1, hW1⟩ : ∃ W1, W1 = (w.alloc (.cells #[.int .u8 0, .int .i64 0, .string ⟨#[]⟩, .slice none 0 0] 24)).alloc (.cells #[.int .i64 0] 31) := ⟨_, rfl⟩
  obtain ⟨W2, hW2⟩ : ∃ W2, W2 = W1.alloc (.cells #[.slice a n c, .int .i64 0] 95) := ⟨_, rfl⟩
  have hb0 : Below w.heap.size w (w.alloc (.cells #[.int .u8 0, .int .i64 0, .string ⟨#[]⟩, .slice none 0 0] 24)) := (Below.refl _ w).alloc (Nat.le_refl _) _
  have hb1 : Below w.heap.size w W1 := by rw [hW1]; exact hb0.alloc hb0.size _
  have hb12 : Below W1.heap.size W1 W2 := by rw [hW2]; exact (Below.refl _ W1).alloc (Nat.le_refl _) _
  have hb2 : Below w.heap.size w W2 := hb1.trans (hb12.mono hb1.size)
  have hs1 : W1.heap.size = w.heap.size + 2 := by rw [hW1]; simp
  have hs2 : W2.heap.size = w.heap.size + 3 := by rw [hW2]; simp [hs1]
  have hr2 : W1.heap[w.heap.size]? = some (.cells #[.int .u8 0, .int .i64 0, .string ⟨#[]⟩, .slice none 0 0] 24 (0, 0)) := by
    rw [hW1, ((Below.refl _ _).alloc (Nat.le_refl _) _ : Below _ (w.alloc (.cells #[.int .u8 0, .int .i64 0, .string ⟨#[]⟩, .slice none 0 0] 24)) _).block _ (by simp)]
    exact heap_alloc_new w _
  have hr4 : W1.heap[w.heap.size + 1]? = some (.cells #[.int .i64 0] 31 (0, 0)) := by
    have h := heap_alloc_new (w.alloc (.cells #[.int .u8 0, .int .i64 0, .string ⟨#[]⟩, .slice none 0 0] 24)) (.cells #[.int .i64 0] 31)
    rw [hW1]
    simpa using h
  have hr5 : W2.heap[w.heap.size + 2]? = some (.cells #[.slice a n c, .int .i64 0] 95 (0, 0)) := by
    have h := heap_alloc_new W1 (.cells #[.slice a n c, .int .i64 0] 95)
    rw [← hW2, hs1] at h
    exact h
  have kr2 := (hb12.block _ (lt_rowV hr2)).trans hr2
  have kr4 := (hb12.block _ (lt_rowV hr4)).trans hr4
  have hle := hbw.size
  have hR2 : Rdr b (w.heap.size + 2) a n c 0 bs W2 := ⟨hbw.trans (hb2.mono hle), by omega, hr5, h, hn⟩
  have HLE := hide hle
  have HBW := hide hbw
  have HC := hide (rValue_any 6 1 rfl (by omega) b _ n c 0 a bs W2 hR2 (by omega))
  have HS1 := hide hs1
  have HS2 := hide hs2
  have HK2 := hide kr2
  have HK4 := hide kr4
  have HB2 := hide hb2
  have HW1 := hide hW1
  have HW2 := hide hW2
  clear h hn hb0 hb1 hb12 hb2 hs1 hs2 hr2 hr4 hr5 kr2 kr4 hR2 hW1 hW2 hle hbw
  go_enter_defers Tryd.func42, Tryd.ntmps42
  go_upto_region 2 with fail
  rw [← unhide HW1]
  clear HW1
  go_upto_region 3 with fail
  rw [← unhide HW2]
  rw [unhide HS1]
  clear HW2
  go_wp2_with fail
  refine (unhide HC).mono ?_
  rintro e W3 ⟨hu3, ⟨v, j, xK, xl, xc, n', xN, xz, xa, a', hvr, hvp, rfl, hAt, hn', hR3⟩ | ⟨hNo, rfl⟩⟩
  · have g2 := (hu3.block _ (lt_rowV (unhide HK2)) (by omega)).trans (unhide HK2)
    have g4 := (hu3.block _ (lt_rowV (unhide HK4)) (by omega)).trans (unhide HK4)
    have hT := TkS.setS (v := v) (xK := xK) (xN := xN) (xz := xz) (xa := xa) (xl := xl) (xc := xc) g2 g4 (hAt.wider fun k hk => by have := unhide HS2; omega) hR3 (unhide HLE) (hu3.below (unhide HB2) (by omega))
    obtain ⟨⟨c0, c1, c2, c3⟩, f0, f1, f2, f3⟩ := cells4 g2
    obtain ⟨W4, hW4⟩ : ∃ W4, W4 = ((((W3.setCell ⟨w.heap.size, 0, none⟩ (.int .u8 ((xK : Nat) : Int))).setCell ⟨w.heap.size, 1, none⟩ (.int .i64 xN)).setCell ⟨w.heap.size, 2, none⟩ (.string xz)).setCell ⟨w.heap.size, 3, none⟩ (.slice xa xl xc)) := ⟨_, rfl⟩
    rw [← hW4] at hT
    obtain ⟨⟨d0, d1, d2, d3⟩, e0, e1, e2, e3⟩ := cells4 hT.h2
    have e4 : W4.cell? ⟨w.heap.size + 1, 0, none⟩ = some (.int .i64 0) := cell_of_row _ _ 0 _ _ _ hT.h4
    have e4f : W4.frozen? ⟨w.heap.size + 1, 0, none⟩ = false := frozen_of_row _ _ _ _ _ hT.h4
    obtain ⟨r0, r1, -, -⟩ := hT.rdr.cells
    have HT := hide hT
    have HW4 := hide hW4
    have HVR := hide hvr
    have HNE := hide hn'
    clear hu3 hvr hvp hAt hn' hR3 g2 g4 hT hW4
    go_upto_region 4 with fail
    rw [← unhide HW4]
    clear HW4 c0 c1 c2 c3 f0 f1 f2 f3
    refine wp_region_noPanic ?_
    go_region
    all_goals (
      refine NoPanic.normal ?_
      have HT5 := hide (unhide HT).again.setE.drew
      go_wp2
      refine leaves_cons (f := 67) (args := #[.pointer (some ⟨w.heap.size + 1, 0, none⟩)]) (by simp) (by simp [go_sem]) ?_
      refine (catch_idle _ _).mono ?_
      rintro e u' w'' ⟨rfl, rfl, rfl⟩
      simp only [settle]
      refine ⟨_, results_ctc rfl _ _ _ _ _ _ _ _ (.int .i64 0) rfl (unhide HT5).h2 Tryd.underlying24 rfl (by kernel_rfl) rfl (load_errno (cell_of_row _ _ 0 _ _ _ (unhide HT5).h4)), .inl ⟨v, j, _, a', n', unhide HVR, (unhide HT5).val.wider (fun k hk => by omega), ?_, ?_⟩, (unhide HT5).bel⟩
      · rw [← unhide HNE]; exact (unhide HT5).rdr.bytes
      · rw [← unhide HNE]; rfl)
  · have g2 := (hu3.block _ (lt_rowV (unhide HK2)) (by omega)).trans (unhide HK2)
    have g4 := (hu3.block _ (lt_rowV (unhide HK4)) (by omega)).trans (unhide HK4)
    have HB3 := hide (hu3.below (unhide HB2) (by omega))
    have HNV : Hid (NoVal bs 6) := NoV.noVal hNo
    have HG2 := hide g2
    have HG4 := hide g4
    clear hu3 hNo g2 g4
    go_wp2_with fail
    refine leaves_cons (f := 67) (args := #[.pointer (some ⟨w.heap.size + 1, 0, none⟩)]) (by simp) (by simp [go_sem]) ?_
    refine (catch_panicking _ 0 _ _ [] _ (cell_of_row _ _ 0 _ _ _ (unhide HG4)) (frozen_of_row _ _ _ _ _ (unhide HG4))).mono ?_
    rintro e u' w'' ⟨rfl, rfl, rfl⟩
    have h2' : (W3.setCell ⟨w.heap.size + 1, 0, none⟩ (.int .i64 30)).heap[w.heap.size]? = _ := (Below.heap_setCell _ _ _ _ (by show w.heap.size ≠ w.heap.size + 1; omega)).trans (unhide HG2)
    have h4' := heap_setCell_same _ _ 0 _ _ (.int .i64 30) (unhide HG4)
    simp only [settle]
    exact ⟨_, results_ctc rfl _ _ _ _ _ _ _ _ (.int .i64 30) rfl h2' Tryd.underlying24 rfl (by kernel_rfl) rfl (load_errno (cell_of_row _ _ 0 _ _ _ h4')), .inr ⟨unhide HNV, rfl⟩, (unhide HB3).setCell (p := ⟨w.heap.size + 1, 0, none⟩) (by show w.heap.size ≤ w.heap.size + 1; omega) _⟩

theorem vTake_any (a : Option Addr) (n c : Nat) (bs : List UInt8) (w : World) (h : Bytes w (.slice a n c) bs) (hn : n ≤ 1048576) : Calls Tryd.prog 42 #[.slice a n c] w fun e w' => TookVM w n bs e w' ∧ Below w.heap.size w w' := by
  refine (vTakeB_any a n c bs w w (Below.refl _ _) h hn).mono ?_
  rintro e W ⟨⟨v, j, u, ra, rc, h1, h2, h3, h4⟩ | h1, hb⟩
  · exact ⟨.inl ⟨v, j, u, ra, rc, h1, h2, h3.kept fun k _ hk => hb.block k hk, h4⟩, hb⟩
  · exact ⟨.inr h1, hb⟩

theorem VD.At.form {B : Nat → Prop} {W : World} {v : VD} {u : Value} (h : v.At B W u) : ∃ (K m c : Nat) (N : Int) (z : ByteArray) (a : Option Addr), u = .agg #[.int .u8 ((K : Nat) : Int), .int .i64 N, .string z, .slice a m c] := by
  rw [VD.at_iff] at h
  obtain ⟨a, c, rfl, _⟩ := h
  exact ⟨_, _, _, _, _, _, rfl⟩


end Go.Proofs.YtdlbpbglidhlfaaDoor
