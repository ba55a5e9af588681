/- ValImplL, ValRefB, ValImplA, ValLaw, ValImplV: our own definitions and contracts; no statement of the seat is proved here. -/
import Derived.Test.YtdlbpbglidhlfaaGreatDoorBase06
import Derived.Test.YtdlbpbglidhlfaaGreatDoorBase05
namespace Go.Proofs.YtdlbpbglidhlfaaGreatDoor
open Go.RowKit

def ValueP (w0 : World) (g n p : Nat) (bs : List UInt8) (D : Nat) (w : World) (e : Ending) (W : World) : Prop := But g w W ∧
  ((∃ (v : VD) (j xK xl xc n' : Nat) (xN : Int) (xz : ByteArray) (xa a' : Option Addr), VReads bs (7 - D) v j ∧ p + v.parts ≤ 200 ∧ e = .returned (.agg #[.int .u8 ((xK : Nat) : Int), .int .i64 xN, .string xz, .slice xa xl xc]) ∧ v.At (fun k => w.heap.size ≤ k) W (.agg #[.int .u8 ((xK : Nat) : Int), .int .i64 xN, .string xz, .slice xa xl xc]) ∧ n' = n - j ∧ Rdr w0 g a' n' n' (p + v.parts) (bs.drop j) W) ∨
   (NoV bs (7 - D) (200 - p) ∧ e = .panicked left30))
def ListP (w0 : World) (g n p : Nat) (bs : List UInt8) (D : Nat) (w : World) (e : Ending) (W : World) : Prop := But g w W ∧
  ((∃ (l : List VD) (i j m rc n' : Nat) (ra a' : Option Addr), Reads bs ((l.length : Nat) : Int) i ∧ l.length ≤ 40 ∧ Listed bs (7 - D) i l j ∧ p + VD.partsL l ≤ 200 ∧ m = l.length ∧ e = .returned (.slice ra m rc) ∧ ValsO w.heap.size W (.slice ra m rc) l ∧ n' = n - j ∧ Rdr w0 g a' n' n' (p + VD.partsL l) (bs.drop j) W) ∨
   (NoL bs (7 - D) (200 - p) ∧ e = .panicked left30))
/-- What the reader's value tells, so deep. -/
def ValueC (D : Nat) : Prop := ∀ (w0 : World) (g n c p : Nat) (a : Option Addr) (bs : List UInt8) (w : World), Rdr w0 g a n c p bs w → p ≤ 200 → Calls Tryz.prog 83 #[.pointer (some ⟨g, 0, none⟩), .int .i64 ((D : Nat) : Int)] w (ValueP w0 g n p bs D w)
/-- What the reader's list tells. -/
def ListC (D : Nat) : Prop := ∀ (w0 : World) (g n c p : Nat) (a : Option Addr) (bs : List UInt8) (w : World), Rdr w0 g a n c p bs w → p ≤ 200 → Calls Tryz.prog 110 #[.pointer (some ⟨g, 0, none⟩), .int .i64 ((D : Nat) : Int)] w (ListP w0 g n p bs D w)

theorem ValsO.but {B0 g : Nat} {W W' : World} {r : Value} {q : List VD} (h : ValsO B0 W r q) (hg : g < B0) (hb : But g W W') : ValsO B0 W' r q := by
  obtain ⟨⟨xs, h1, h2⟩, h3⟩ := h
  refine ⟨⟨xs, ownsV_keeps h1 fun k hk => hb.block k (h1.lt k hk).2 (by have := h3 k hk; omega), fun i hi => (h2 i hi).kept (fun k hk hlt => hb.block k hlt (by have := hk.1; omega)) (fun _ h _ => h)⟩, h3⟩
/-- One more value behind the row. -/
theorem list_next {w0 w W W3 : World} {g n c p : Nat} {a : Option Addr} {bs : List UInt8} {r : Value} {q : List VD} (hv : ValsO w.heap.size W r q) (hg : g < w.heap.size) (hu : But g w W) (hu3 : But g W W3) (hR : Rdr w0 g a n c p bs W3) {x : VD} {xK xl xc : Nat} {xN : Int} {xz : ByteArray} {xa : Option Addr}
    (hx : x.At (fun k => W.heap.size ≤ k) W3 (.agg #[.int .u8 ((xK : Nat) : Int), .int .i64 xN, .string xz, .slice xa xl xc])) (hl : q.length ≤ 1048576) (ty : TypeId) :
    ∃ ra' rc' W7, (Builtin.append_ #[22, 22] ty #[r, .slice (some ⟨W3.heap.size, 0, none⟩) 1 1]).run Tryz.prog (W3.alloc (.cells #[.int .u8 ((xK : Nat) : Int), .int .i64 xN, .string xz, .slice xa xl xc] 24)) = .ok (.slice ra' (q.length + 1) rc') W7 ∧
      ValsO w.heap.size W7 (.slice ra' (q.length + 1) rc') (q ++ [x]) ∧ But g w W7 ∧ Rdr w0 g a n c p bs W7 := by
  have h3 := hv.but hg hu3
  have hu03 := hu.trans hu3
  obtain ⟨W6, hW6⟩ : ∃ W6, W6 = W3.alloc (.cells #[.int .u8 ((xK : Nat) : Int), .int .i64 xN, .string xz, .slice xa xl xc] 24) := ⟨_, rfl⟩
  have hb6 : Below W3.heap.size W3 W6 := by rw [hW6]; exact (Below.refl _ _).alloc (Nat.le_refl _) _
  have hr6 : W6.heap[W3.heap.size]? = some (.cells #[.int .u8 ((xK : Nat) : Int), .int .i64 xN, .string xz, .slice xa xl xc] 24 (0, 0)) := by rw [hW6]; exact heap_alloc_new W3 _
  obtain ⟨⟨i0, i1, i2, i3⟩, _⟩ := cells4 hr6
  have h6 := h3.later hb6
  have hx6 : x.At (fun k => w.heap.size ≤ k ∧ r.ownBlock ≠ some k) W6 (.agg #[.int .u8 ((xK : Nat) : Int), .int .i64 xN, .string xz, .slice xa xl xc]) :=
    hx.kept (fun k _ hk => hb6.block k hk) (fun k hk hlt => ⟨Nat.le_trans hu.size hk, fun e => by
      obtain ⟨xs, h1, _⟩ := hv.row
      have := (h1.lt k e).2
      omega⟩)
  obtain ⟨r', W7, hrun, hv7, hg7⟩ := h6.append (Nat.le_trans hu03.size hb6.size) hx6 (ad := ⟨W3.heap.size, 0, none⟩) (c := 1) (by rw [Addr.add_mid]; exact i0) (by rw [Addr.add_mid]; exact i1) (by rw [Addr.add_mid]; exact i2) (by rw [Addr.add_mid]; exact i3) hl ty
  obtain ⟨ra', rc', rfl, _⟩ := hv7.form
  rw [List.length_append, List.length_singleton] at hv7 hrun
  rw [hW6] at hrun
  have hu6 := hu03.trans (But.of hb6)
  have hR6 := hR.later hb6
  have hnew : ∀ k, k < w.heap.size → W7.heap[k]? = W6.heap[k]? := fun k hk => hg7.block k (Nat.lt_of_lt_of_le hk hu6.size) fun e => by
    have := h6.new k (by rw [← e])
    omega
  refine ⟨ra', rc', W7, hrun, hv7, ⟨hg7.os.trans hu6.os, hg7.tape.trans hu6.tape, hg7.output.trans hu6.output, Nat.le_trans hu6.size hg7.size, fun k hk hn => (hnew k hk).trans (hu6.block k hk hn)⟩, ?_⟩
  exact ⟨⟨hg7.os.trans hR6.below.os, hg7.tape.trans hR6.below.tape, hg7.output.trans hR6.below.output, Nat.le_trans hR6.below.size hg7.size, fun k hk => (hnew k (by have := hR.new; omega)).trans (hR6.below.block k hk)⟩, hR6.new, (hnew g hg).trans hR6.blk, hR6.bytes, hR6.len⟩

set_option maxRecDepth 100000 in
set_option maxHeartbeats 1000000 in
theorem rList_step (D : Nat) (hVC : ValueC D) : ListC D := by
  intro w0 g n c p a bs w hR hp
  have hgw : g < w.heap.size := lt_rowV hR.blk
  have hbl : bs.length = n := (bytes_len hR.bytes).1
  have HBL := hide hbl
  have HR := hide hR
  have HV := hide hVC
  have HP := hide hp
  have HG := hide hgw
  clear hR hVC hp hgw hbl
  go_enter Tryz.func110, Tryz.ntmps110
  go_wp2_with fail
  refine (rNumber_any w0 g n c p a bs w (unhide HR)).mono ?_
  rintro e w1 ⟨hu1, ⟨x, k, hr, rfl, hR1⟩ | ⟨hNo, rfl⟩⟩
  · have HU1 := hide hu1
    have HRD := hide hr
    have HR1 := hide hR1
    obtain ⟨hx1, hx2⟩ := hr.inr
    have hkn : k ≤ n := by have := hr.le; have := unhide HBL; omega
    have HKN := hide hkn
    clear hu1 hr hR1 hkn
    by_cases hneg : x < 0
    · have hge : decide (x ≥ 0) = false := by rw [decide_eq_false_iff_not]; omega
      have HNL : Hid (NoL bs (7 - D) (200 - p)) := noL_count (unhide HRD) (.inl hneg)
      clear hneg
      go_wp2_with fail
      refine (need_any false _).mono ?_
      rintro e w2 ⟨rfl, hw⟩
      rw [hw]
      clear hw w2
      exact ⟨rfl, unhide HU1, .inr ⟨unhide HNL, rfl⟩⟩
    · have hge : decide (x ≥ 0) = true := by rw [decide_eq_true_iff]; omega
      by_cases h40 : 40 < x
      · have hle : decide (x ≤ 40) = false := by rw [decide_eq_false_iff_not]; omega
        have HNL : Hid (NoL bs (7 - D) (200 - p)) := noL_count (unhide HRD) (.inr h40)
        clear hneg h40
        go_wp2_with fail
        refine (need_any false _).mono ?_
        rintro e w2 ⟨rfl, hw⟩
        rw [hw]
        clear hw w2
        exact ⟨rfl, unhide HU1, .inr ⟨unhide HNL, rfl⟩⟩
      · have hle : decide (x ≤ 40) = true := by rw [decide_eq_true_iff]; omega
        obtain ⟨N, rfl⟩ : ∃ N : Nat, x = ((N : Nat) : Int) := ⟨x.toNat, by omega⟩
        have hN40 : N ≤ 40 := by omega
        clear hneg h40 hx1 hx2
        go_wp2_with fail
        refine (need_any true _).mono ?_
        rintro e w2 ⟨rfl, hw⟩
        rw [hw]
        clear hw w2 hge hle
        go_wp2
        go_loopw [6, 17] (fun r i W => ∃ (q : List VD) (Q at1 rc n' P : Nat) (ra a' : Option Addr), q.length = Q ∧ Q ≤ N ∧ i = .int .i64 ((Q : Nat) : Int) ∧ r = .slice ra Q rc ∧ But g w W ∧ Listed bs (7 - D) k q at1 ∧ P = p + VD.partsL q ∧ P ≤ 200 ∧ ValsO w.heap.size W (.slice ra Q rc) q ∧ n' = n - at1 ∧ Rdr w0 g a' n' n' P (bs.drop at1) W) (fun _ i _ => N - (intOf i).toNat)
        case atStart => exact ⟨[], 0, k, 0, n - k, p, none, _, rfl, Nat.zero_le _, rfl, rfl, unhide HU1, Listed.nil _ _ _, by simp [VD.partsL], unhide HP, ValsO.nil _ _, rfl, unhide HR1⟩
        case round =>
          obtain ⟨q, Q, at1, rc, n', P, ra, a', hQ, hQN, rfl, rfl, hu, hL, hP, hP2, hv, hn', hR'⟩ := hrel
          have HQ := hide hQ
          have HU := hide hu
          have HL := hide hL
          have HPE := hide hP
          have HVS := hide hv
          have HNE := hide hn'
          have HR' := hide hR'
          clear hQ hu hL hP hv hn'
          by_cases hlt : Q < N
          · have hji : ((Q : Nat) : Int) < ((N : Nat) : Int) := by omega
            have HC := hide (unhide HV w0 g n' n' P a' _ wr hR' hP2)
            have HP2 := hide hP2
            clear hR' hP2
            go_wp2_with fail
            refine (unhide HC).mono ?_
            rintro e W3 ⟨hu3, ⟨v, j, xK, xl, xc, n'', xN, xz, xa, a'', hvr, hvp, rfl, hAt, hn'', hR3⟩ | ⟨hNo, rfl⟩⟩
            · obtain ⟨ra', rc', W7, hrun, hv7, hu7, hR7⟩ := list_next (unhide HVS) (unhide HG) (unhide HU) hu3 hR3 hAt (by have := unhide HQ; omega) 22
              rw [unhide HQ] at hrun hv7
              have HRUN := hide hrun
              have HV7 := hide hv7
              have HU7 := hide hu7
              have HR7 := hide hR7
              have HL7 := hide ((unhide HL).snoc hvr)
              have HVP := hide hvp
              have HN7 : Hid (n'' = n - (at1 + j)) := by show _ = _; have := unhide HNE; omega
              clear hu3 hvr hvp hAt hn'' hR3 hrun hv7 hu7 hR7
              go_wp2_with (at_builtin; refine Lib.wpList_append_run _ rfl _ _ 22 22 rfl _ _ rfl rfl _ _ (unhide HRUN) ?_)
              go_wp2
              refine ⟨⟨q ++ [v], Q + 1, at1 + j, rc', n'', P + v.parts, ra', a'', by rw [List.length_append, List.length_singleton, unhide HQ], by omega, by go_num, rfl, unhide HU7, unhide HL7, ?_, unhide HVP, unhide HV7, unhide HN7, ?_⟩, by simp [intOf]; omega⟩
              · rw [VD.partsL_append]; simp only [VD.partsL]; have := unhide HPE; omega
              · have := unhide HR7; rw [List.drop_drop] at this; exact this
            · have HNL : Hid (NoL bs (7 - D) (200 - p)) := noL_next (unhide HRD) (unhide HL) (by have := unhide HQ; omega) (by omega) (by have h1 := hNo; rw [show 200 - P = 200 - p - VD.partsL q by have := unhide HPE; omega] at h1; exact h1)
              have HUF := hide ((unhide HU).trans hu3)
              clear hNo hu3
              go_wp2_with fail
              exact ⟨rfl, unhide HUF, .inr ⟨unhide HNL, rfl⟩⟩
          · have hQe : Q = N := by omega
            have hji : ¬ ((Q : Nat) : Int) < ((N : Nat) : Int) := by omega
            have HQN : Hid (N = q.length) := by show _ = _; have := unhide HQ; omega
            have HP2 := hide hP2
            clear hR' hP2 hQN hlt
            subst hQe
            go_wp2
            go_ret
            exact ⟨unhide HU, .inl ⟨q, k, at1, _, _, n', _, a', by rw [← unhide HQN]; exact unhide HRD, by rw [← unhide HQN]; exact hN40, unhide HL, by rw [← unhide HPE]; exact unhide HP2, unhide HQN, rfl, unhide HVS, unhide HNE, by rw [← unhide HPE]; exact unhide HR'⟩⟩
  · have HU1 := hide hu1
    have HNL : Hid (NoL bs (7 - D) (200 - p)) := noL_num hNo
    clear hNo hu1
    go_wp2_with fail
    exact ⟨rfl, unhide HU1, .inr ⟨unhide HNL, rfl⟩⟩
end Go.Proofs.YtdlbpbglidhlfaaGreatDoor

namespace Go.Proofs.YtdlbpbglidhlfaaGreatDoor
open Go.RowKit

theorem VD.kinds_0 {v : VD} (h : v.k = 0) : v.kinds = (v.s.isEmpty && v.l.isEmpty) := by
  obtain ⟨k, n, s, l⟩ := v
  have h : k = 0 := h
  subst h; simp only [VD.kinds, VD.s, VD.l]
theorem VD.kinds_1 {v : VD} (h : v.k = 1) : v.kinds = (decide (v.n = 0) && v.l.isEmpty && decide (v.s.length ≤ 100)) := by
  obtain ⟨k, n, s, l⟩ := v
  have h : k = 1 := h
  subst h; simp only [VD.kinds, VD.s, VD.l, VD.n]; rfl
theorem VD.kinds_2 {v : VD} (h : v.k = 2) : v.kinds = (decide (v.n = 0) && v.s.isEmpty && decide (v.l.length ≤ 40) && VD.kindsL v.l) := by
  obtain ⟨k, n, s, l⟩ := v
  have h : k = 2 := h
  subst h; simp only [VD.kinds, VD.s, VD.l, VD.n]; rfl
theorem VD.kinds_3 {v : VD} (h0 : v.k ≠ 0) (h1 : v.k ≠ 1) (h2 : v.k ≠ 2) : v.kinds = false := by
  obtain ⟨k, n, s, l⟩ := v
  simp only [VD.k] at h0 h1 h2
  match k, h0, h1, h2 with
  | 0, h, _, _ => exact absurd rfl h
  | 1, _, h, _ => exact absurd rfl h
  | 2, _, _, h => exact absurd rfl h
  | k + 3, _, _, _ => simp [VD.kinds]
theorem VD.kindsL_take_succ {l : List VD} {j : Nat} (h : j < l.length) : VD.kindsL (l.take (j + 1)) = (VD.kindsL (l.take j) && (l[j]).kinds) := by
  rw [List.take_succ_eq_append_getElem h]
  generalize l.take j = p
  induction p with
  | nil => simp [VD.kindsL]
  | cons x r ih => simp only [List.cons_append, VD.kindsL, ih, Bool.and_assoc]
theorem VD.kindsL_false {l : List VD} {j : Nat} (h : j < l.length) (hf : (l[j]).kinds = false) : VD.kindsL l = false := by
  rw [Bool.eq_false_iff]
  intro ht
  have := (VD.kindsL_iff l).1 ht _ (List.getElem_mem h)
  rw [hf] at this
  cases this

set_option maxRecDepth 100000 in
set_option maxHeartbeats 2000000 in
theorem vRefKinds_any (v : VD) : ∀ (B : Nat → Prop) (u : Value) (w : World), v.At B w u → v.parts ≤ 1000000 → Calls Tryz.prog 40 #[u] w fun e w' => e = .returned (.bool v.kinds) ∧ Below w.heap.size w w' := by
  induction v using VD.induct with
  | h v ih =>
    intro B u w hA hm
    obtain ⟨a, c, rfl, hlc, hbox⟩ := hA.box
    have HBX := hide (hbox 24)
    have HB1 : Hid (Below w.heap.size w (w.alloc (.cells #[.int .u8 ((v.k : Nat) : Int), .int .i64 v.n, .string ⟨v.s.toArray⟩, .slice a v.l.length c] 24))) := (Below.refl _ w).alloc (Nat.le_refl _) _
    have HM := hide hm
    have HIH := hide ih
    clear hA hbox hm ih
    obtain ⟨n, hn⟩ : ∃ n, n = v.l.length := ⟨_, rfl⟩
    have HN := hide hn
    have hn6 : n ≤ 1000000 := by have h1 := VD.partsL_length v.l; have h2 := v.parts_mk; have := unhide HM; omega
    rw [← hn] at hlc ⊢ HBX HB1
    clear hn
    have hsz : (⟨v.s.toArray⟩ : ByteArray).size = v.s.length := by simp [ByteArray.size]
    obtain ⟨m, hm⟩ : ∃ m, m = v.s.length := ⟨_, rfl⟩
    rw [← hm] at hsz
    have HMS := hide hm
    have hzl : (⟨v.s.toArray⟩ : ByteArray).toList = v.s := by rw [ByteArray.toList_eq]
    have HZL := hide hzl
    clear hm hzl
    obtain ⟨K, hK⟩ : ∃ K, K = v.k := ⟨_, rfl⟩
    have HK := hide hK
    rw [← hK] at HBX HB1 ⊢
    clear hK
    have hc := (unhide HBX).c0
    have hc1 := (unhide HBX).c1
    have hc2 := (unhide HBX).c2
    have hc3 := (unhide HBX).c3
    rw [← unhide HN] at hc3
    rw [← unhide HK] at hc
    generalize (⟨v.s.toArray⟩ : ByteArray) = z at *
    have hle : v.l.isEmpty = decide (n = 0) := by
      rw [unhide HN]
      cases v.l <;> simp
    have HLE := hide hle
    obtain ⟨se, hse⟩ : ∃ se, se = v.s.isEmpty := ⟨_, rfl⟩
    have hze : z.toList.isEmpty = se := by rw [unhide HZL, hse]
    have HSE := hide hse
    clear hle hse
    by_cases h0 : K = 0
    · have g0 : (((K : Nat) : Int) == 0) = true := by rw [beq_iff_eq]; omega
      have HKD : Hid (v.kinds = (se && decide (n = 0))) := by show _ = _; rw [VD.kinds_0 (v := v) ((unhide HK).symm.trans h0), unhide HLE, unhide HSE]
      clear h0
      cases se with
      | false =>
        go_enter Tryz.func40, Tryz.ntmps40
        go_wp2
        go_ret
        exact ⟨ret_bool (by rw [unhide HKD]; rfl), unhide HB1⟩
      | true =>
        by_cases hn0 : n = 0
        · have gn : (((n : Nat) : Int) == 0) = true := by rw [beq_iff_eq]; omega
          have HN0 := hide hn0
          clear hn0
          go_enter Tryz.func40, Tryz.ntmps40
          go_wp2
          go_ret
          exact ⟨ret_bool (by rw [unhide HKD, decide_eq_true (unhide HN0)]; rfl), unhide HB1⟩
        · have gn : (((n : Nat) : Int) == 0) = false := by rw [beq_eq_false_iff_ne]; omega
          have HN0 := hide hn0
          clear hn0
          go_enter Tryz.func40, Tryz.ntmps40
          go_wp2
          go_ret
          exact ⟨ret_bool (by rw [unhide HKD, decide_eq_false (unhide HN0)]; rfl), unhide HB1⟩
    have g0 : (((K : Nat) : Int) == 0) = false := by rw [beq_eq_false_iff_ne]; omega
    obtain ⟨N, hNn⟩ : ∃ N, N = v.n := ⟨_, rfl⟩
    rw [← hNn] at HBX hc1 ⊢ HB1
    have HNN := hide hNn
    clear hNn
    by_cases h1 : K = 1
    · have g1 : (((K : Nat) : Int) == 1) = true := by rw [beq_iff_eq]; omega
      have HKD : Hid (v.kinds = (decide (N = 0) && decide (n = 0) && decide (m ≤ 100))) := by show _ = _; rw [VD.kinds_1 (v := v) ((unhide HK).symm.trans h1), unhide HLE, unhide HMS, unhide HNN]
      clear h1 h0
      by_cases hN0 : N = 0
      · have gN : (N == 0) = true := beq_iff_eq.2 hN0
        have HN0 := hide hN0
        clear hN0
        by_cases hn0 : n = 0
        · have gn : (((n : Nat) : Int) == 0) = true := by rw [beq_iff_eq]; omega
          have Hn0 := hide hn0
          clear hn0
          by_cases hm1 : m ≤ 100
          · have gm : ((m : Nat) : Int) ≤ 100 := by omega
            go_enter Tryz.func40, Tryz.ntmps40
            go_wp2
            go_ret
            exact ⟨ret_bool (by rw [unhide HKD, decide_eq_true (unhide HN0), decide_eq_true (unhide Hn0)]; simp; omega), unhide HB1⟩
          · have gm : ¬ ((m : Nat) : Int) ≤ 100 := by omega
            go_enter Tryz.func40, Tryz.ntmps40
            go_wp2
            go_ret
            exact ⟨ret_bool (by rw [unhide HKD, decide_eq_true (unhide HN0), decide_eq_true (unhide Hn0)]; simp; omega), unhide HB1⟩
        · have gn : (((n : Nat) : Int) == 0) = false := by rw [beq_eq_false_iff_ne]; omega
          have Hn0 := hide hn0
          clear hn0
          go_enter Tryz.func40, Tryz.ntmps40
          go_wp2
          go_ret
          exact ⟨ret_bool (by rw [unhide HKD, decide_eq_false (unhide Hn0)]; simp), unhide HB1⟩
      · have gN : (N == 0) = false := beq_eq_false_iff_ne.2 hN0
        have HN0 := hide hN0
        clear hN0
        go_enter Tryz.func40, Tryz.ntmps40
        go_wp2
        go_ret
        exact ⟨ret_bool (by rw [unhide HKD, decide_eq_false (unhide HN0)]; simp), unhide HB1⟩
    have g1 : (((K : Nat) : Int) == 1) = false := by rw [beq_eq_false_iff_ne]; omega
    by_cases h2 : K = 2
    · have g2 : (((K : Nat) : Int) == 2) = true := by rw [beq_iff_eq]; omega
      have g2b : (((K : Nat) : Int) != 2) = false := by rw [bne, g2]; rfl
      have HKD : Hid (v.kinds = (decide (N = 0) && se && decide (n ≤ 40) && VD.kindsL v.l)) := by show _ = _; rw [VD.kinds_2 (v := v) ((unhide HK).symm.trans h2), unhide HSE, unhide HN, unhide HNN]
      clear h2 h1 h0
      by_cases hN0 : N = 0
      · have gN : (N == 0) = true := beq_iff_eq.2 hN0
        have gNb : (N != 0) = false := by rw [bne, gN]; rfl
        have HN0 := hide hN0
        clear hN0
        cases se with
        | false =>
          go_enter Tryz.func40, Tryz.ntmps40
          go_wp2
          go_ret
          exact ⟨ret_bool (by rw [unhide HKD]; simp), unhide HB1⟩
        | true =>
          by_cases hn40 : n ≤ 40
          · have gn : ¬ ((n : Nat) : Int) > 40 := by omega
            go_enter Tryz.func40, Tryz.ntmps40
            go_wp2
            generalize hw1 : World.alloc w _ = w1 at HBX HB1 ⊢
            clear hw1 hc hc1 hc2 hc3
            go_loopw [3] (fun k W => ∃ j : Nat, j ≤ n ∧ k = .int .i64 ((j : Nat) : Int) ∧ VD.kindsL (v.l.take j) = true ∧ Below w1.heap.size w1 W) (fun k _ => n - (intOf k).toNat)
            case atStart => exact ⟨0, by omega, rfl, rfl, Below.refl _ _⟩
            case round =>
              obtain ⟨j, hj, rfl, hkt, hb⟩ := hrel
              have HB := hide hb
              have HKT := hide hkt
              have hbx := (unhide HBX).later hb
              have c3 := hbx.c3
              rw [← unhide HN] at c3
              have HEL := hide hbx.el
              clear hb hbx hkt
              by_cases hlt : j < n
              · have hji : ((j : Nat) : Int) < ((n : Nat) : Int) := by omega
                have hjl : j < v.l.length := by have := unhide HN; omega
                obtain ⟨b, o, e0, e1, e2, e3, rfl, _, d0, d1, d2, d3, he⟩ := unhide HEL j hjl
                have hmem : v.l[j] ∈ v.l := List.getElem_mem hjl
                have hpl := VD.parts_lt hmem
                have HTS := hide (VD.kindsL_take_succ hjl)
                have HFL := hide (VD.kindsL_false (l := v.l) hjl)
                have HC : Hid (Calls Tryz.prog 40 #[.agg #[e0, e1, e2, e3]] wr fun e w' => e = .returned (.bool (v.l[j]).kinds) ∧ Below wr.heap.size wr w') := unhide HIH _ hmem B _ wr he (by have := unhide HM; omega)
                generalize (v.l[j]).kinds = p at *
                clear he hpl hmem HEL
                go_wp2_with fail
                refine (unhide HC).mono ?_
                rintro e w2 ⟨rfl, hb2⟩
                have HB2 := hide ((unhide HB).trans (hb2.mono (unhide HB).size))
                clear hb2
                cases p with
                | true =>
                  go_wp2_with fail
                  exact ⟨⟨j + 1, by omega, by go_num, by rw [unhide HTS, unhide HKT]; rfl, unhide HB2⟩, by simp [intOf]; omega⟩
                | false =>
                  have HFB := hide ((unhide HB1).trans ((unhide HB2).mono (unhide HB1).size))
                  go_wp2_with fail
                  go_ret
                  exact ⟨ret_bool (by rw [unhide HKD, show VD.kindsL v.l = false from unhide HFL (by trivial)]; simp), unhide HFB⟩
              · have e : j = n := by omega
                have hji : ¬ ((j : Nat) : Int) < ((n : Nat) : Int) := by omega
                have HFB := hide ((unhide HB1).trans ((unhide HB).mono (unhide HB1).size))
                have HKL : Hid (VD.kindsL v.l = true) := by
                  show _ = _
                  have h := unhide HKT
                  rw [List.take_of_length_le (by have := unhide HN; omega)] at h
                  exact h
                have Hn40 := hide hn40
                clear e hn40
                go_wp2
                go_ret
                exact ⟨ret_bool (by rw [unhide HKD, unhide HKL, decide_eq_true (unhide HN0), decide_eq_true (unhide Hn40)]; rfl), unhide HFB⟩
          · have gn : ((n : Nat) : Int) > 40 := by omega
            have Hn40 := hide hn40
            clear hn40
            go_enter Tryz.func40, Tryz.ntmps40
            go_wp2
            go_ret
            exact ⟨ret_bool (by rw [unhide HKD, decide_eq_false (unhide Hn40)]; simp), unhide HB1⟩
      · have gN : (N == 0) = false := beq_eq_false_iff_ne.2 hN0
        have gNb : (N != 0) = true := by rw [bne, gN]; rfl
        have HN0 := hide hN0
        clear hN0
        go_enter Tryz.func40, Tryz.ntmps40
        go_wp2
        go_ret
        exact ⟨ret_bool (by rw [unhide HKD, decide_eq_false (unhide HN0)]; simp), unhide HB1⟩
    · have g2 : (((K : Nat) : Int) == 2) = false := by rw [beq_eq_false_iff_ne]; omega
      have g2b : (((K : Nat) : Int) != 2) = true := by rw [bne, g2]; rfl
      have HKD : Hid (v.kinds = false) := VD.kinds_3 (by rw [← unhide HK]; exact h0) (by rw [← unhide HK]; exact h1) (by rw [← unhide HK]; exact h2)
      clear h0 h1 h2
      go_enter Tryz.func40, Tryz.ntmps40
      go_wp2
      go_ret
      exact ⟨ret_bool (by rw [unhide HKD]), unhide HB1⟩
end Go.Proofs.YtdlbpbglidhlfaaGreatDoor

namespace Go.Proofs.YtdlbpbglidhlfaaGreatDoor
open Go.RowKit

theorem mayBe_any (d c : Nat) (w : World) : Calls Tryz.prog 94 #[.int .i64 ((d : Nat) : Int), .int .i64 ((c : Nat) : Int)] w fun e w' => e = .returned (.bool (decide (d ≤ 6) && decide (c ≤ 200))) ∧ w' = w := by
  by_cases hd : d ≤ 6
  · have hdi : ((d : Nat) : Int) ≤ 6 := by omega
    have HD := hide hd
    clear hd
    by_cases hc : c ≤ 200
    · have hci : ((c : Nat) : Int) ≤ 200 := by omega
      have HC := hide hc
      clear hc
      go_enter Tryz.func94, Tryz.ntmps94
      go_wp2
      go_ret
      exact ⟨ret_bool (by rw [decide_eq_true (unhide HD), decide_eq_true (unhide HC)]; rfl), rfl⟩
    · have hci : ¬ ((c : Nat) : Int) ≤ 200 := by omega
      have HC := hide hc
      clear hc
      go_enter Tryz.func94, Tryz.ntmps94
      go_wp2
      go_ret
      exact ⟨ret_bool (by rw [decide_eq_false (unhide HC)]; simp), rfl⟩
  · have hdi : ¬ ((d : Nat) : Int) ≤ 6 := by omega
    have HD := hide hd
    clear hd
    go_enter Tryz.func94, Tryz.ntmps94
    go_wp2
    go_ret
    exact ⟨ret_bool (by rw [decide_eq_false (unhide HD)]; simp), rfl⟩

/-- A value's cells in a row, written out. -/
theorem VD.Elem.out {B : Nat → Prop} {W : World} {x : VD} {a : Option Addr} {i : Nat} (h : VD.Elem B W x a i) : ∃ (b o K xl ec : Nat) (N : Int) (z : ByteArray) (ea : Option Addr), a = some ⟨b, o, none⟩ ∧ B b ∧ W.cell? ⟨b, o + i * 4, none⟩ = some (.int .u8 ((K : Nat) : Int)) ∧ W.cell? ⟨b, o + i * 4 + 1, none⟩ = some (.int .i64 N) ∧ W.cell? ⟨b, o + i * 4 + 2, none⟩ = some (.string z) ∧ W.cell? ⟨b, o + i * 4 + 3, none⟩ = some (.slice ea xl ec) ∧ x.At B W (.agg #[.int .u8 ((K : Nat) : Int), .int .i64 N, .string z, .slice ea xl ec]) := by
  obtain ⟨b, o, e0, e1, e2, e3, ha, hb, c0, c1, c2, c3, he⟩ := h
  have h0 := he
  rw [VD.at_iff] at h0
  obtain ⟨ea, ec, hu, _⟩ := h0
  simp only [Value.agg.injEq] at hu
  have hu := congrArg Array.toList hu
  simp only [List.cons.injEq, and_true] at hu
  obtain ⟨rfl, rfl, rfl, rfl⟩ := hu
  exact ⟨b, o, x.k, x.l.length, ec, x.n, _, ea, ha, hb, c0, c1, c2, c3, he⟩
/-- The elements of a value that is read so. -/
theorem VD.At.elems {B : Nat → Prop} {W : World} {v : VD} {u0 u1 u2 : Value} {a : Option Addr} {m c : Nat} (h : v.At B W (.agg #[u0, u1, u2, .slice a m c])) : ∀ j (h : j < v.l.length), VD.Elem B W (v.l[j]'h) a j := by
  rw [VD.at_iff] at h
  obtain ⟨a', c', he, _, _, _, _, _, h7⟩ := h
  simp only [Value.agg.injEq] at he
  have he := congrArg Array.toList he
  simp only [List.cons.injEq, Value.slice.injEq] at he
  obtain ⟨_, _, _, ⟨rfl, _⟩, _⟩ := he
  exact h7

/-- Right but for what is in its list. -/
def VD.alone (v : VD) : Bool :=
  (decide (v.k = 0) && (v.s.isEmpty && v.l.isEmpty)) || (decide (v.k = 1) && (decide (v.s.length ≤ 100) && decide (v.n = 0) && v.l.isEmpty)) || (decide (v.k = 2) && (decide (v.l.length ≤ 40) && decide (v.n = 0) && v.s.isEmpty))
theorem VD.kindsL_nil {v : VD} (h : v.l.isEmpty = true) : VD.kindsL v.l = true := by rw [List.isEmpty_iff.1 h]; rfl
theorem VD.kinds_alone (v : VD) : v.kinds = (v.alone && VD.kindsL v.l) := by
  have hnil := @VD.kindsL_nil v
  rw [VD.alone]
  by_cases h0 : v.k = 0
  · rw [VD.kinds_0 h0, decide_eq_true h0, decide_eq_false (by omega : ¬ v.k = 1), decide_eq_false (by omega : ¬ v.k = 2)]
    revert hnil
    cases v.s.isEmpty <;> cases v.l.isEmpty <;> cases VD.kindsL v.l <;> simp
  by_cases h1 : v.k = 1
  · rw [VD.kinds_1 h1, decide_eq_true h1, decide_eq_false (by omega : ¬ v.k = 0), decide_eq_false (by omega : ¬ v.k = 2)]
    revert hnil
    cases decide (v.n = 0) <;> cases v.l.isEmpty <;> cases decide (v.s.length ≤ 100) <;> cases VD.kindsL v.l <;> simp
  by_cases h2 : v.k = 2
  · rw [VD.kinds_2 h2, decide_eq_true h2, decide_eq_false (by omega : ¬ v.k = 0), decide_eq_false (by omega : ¬ v.k = 1)]
    clear hnil
    cases decide (v.n = 0) <;> cases v.s.isEmpty <;> cases decide (v.l.length ≤ 40) <;> cases VD.kindsL v.l <;> simp
  rw [VD.kinds_3 h0 h1 h2, decide_eq_false h0, decide_eq_false h1, decide_eq_false h2]
  simp

theorem within_any (a : Option Addr) (c K n : Nat) (N : Int) (z : ByteArray) (d : Nat) (hd : d < 65536) (w : World) : Calls Tryz.prog 76 #[.agg #[.int .u8 ((K : Nat) : Int), .int .i64 N, .string z, .slice a n c], .int .i64 ((d : Nat) : Int)] w fun e w' => e = .returned (.slice a n c) ∧ Below w.heap.size w w' := by
  have hdi : ¬ ((d : Nat) : Int) ≥ 65536 := by omega
  have HB1 : Hid (Below w.heap.size w (w.alloc (.cells #[.int .u8 ((K : Nat) : Int), .int .i64 N, .string z, .slice a n c] 24))) := (Below.refl _ w).alloc (Nat.le_refl _) _
  go_enter Tryz.func76, Tryz.ntmps76
  go_wp2
  go_ret
  exact ⟨rfl, unhide HB1⟩

set_option maxRecDepth 100000 in
set_option maxHeartbeats 2000000 in
theorem alone_any (v : VD) (B : Nat → Prop) (u : Value) (w : World) (hA : v.At B w u) : Calls Tryz.prog 95 #[u] w fun e w' => e = .returned (.bool v.alone) ∧ Below w.heap.size w w' := by
  obtain ⟨a, c, rfl, hlc, hbox⟩ := hA.box
  have HBX := hide (hbox 24)
  have HB1 : Hid (Below w.heap.size w (w.alloc (.cells #[.int .u8 ((v.k : Nat) : Int), .int .i64 v.n, .string ⟨v.s.toArray⟩, .slice a v.l.length c] 24))) := (Below.refl _ w).alloc (Nat.le_refl _) _
  clear hA hbox
  obtain ⟨n, hn⟩ : ∃ n, n = v.l.length := ⟨_, rfl⟩
  have HN := hide hn
  rw [← hn] at hlc ⊢ HBX HB1
  clear hn
  have hsz : (⟨v.s.toArray⟩ : ByteArray).size = v.s.length := by simp [ByteArray.size]
  obtain ⟨m, hm⟩ : ∃ m, m = v.s.length := ⟨_, rfl⟩
  rw [← hm] at hsz
  have HMS := hide hm
  have hzl : (⟨v.s.toArray⟩ : ByteArray).toList = v.s := by rw [ByteArray.toList_eq]
  have HZL := hide hzl
  clear hm hzl
  obtain ⟨K, hK⟩ : ∃ K, K = v.k := ⟨_, rfl⟩
  have HK := hide hK
  rw [← hK] at HBX HB1 ⊢
  clear hK
  have hc := (unhide HBX).c0
  have hc1 := (unhide HBX).c1
  have hc2 := (unhide HBX).c2
  have hc3 := (unhide HBX).c3
  rw [← unhide HN] at hc3
  rw [← unhide HK] at hc
  generalize (⟨v.s.toArray⟩ : ByteArray) = z at *
  have HLE : Hid (v.l.isEmpty = decide (n = 0)) := by
    show _ = _
    rw [unhide HN]
    cases v.l <;> simp
  obtain ⟨se, hse⟩ : ∃ se, se = v.s.isEmpty := ⟨_, rfl⟩
  have hze : z.toList.isEmpty = se := by rw [unhide HZL, hse]
  have HSE := hide hse
  obtain ⟨N, hNn⟩ : ∃ N, N = v.n := ⟨_, rfl⟩
  rw [← hNn] at HBX hc1 ⊢ HB1
  have HKD : Hid (v.alone = ((decide (K = 0) && (se && decide (n = 0))) || (decide (K = 1) && (decide (m ≤ 100) && decide (N = 0) && decide (n = 0))) || (decide (K = 2) && (decide (n ≤ 40) && decide (N = 0) && se)))) := by
    show _ = _
    rw [VD.alone, unhide HLE, hse, hNn, unhide HMS, ← unhide HK, unhide HN]
  clear hse hNn HK HMS HSE HLE HZL
  clear HBX
  by_cases h0 : K = 0
  · have g0 : (((K : Nat) : Int) == 0) = true := by rw [beq_iff_eq]; omega
    have HV : Hid (v.alone = (se && decide (n = 0))) := by show _ = _; rw [unhide HKD, h0]; simp
    clear h0
    cases se with
    | false =>
      go_enter Tryz.func95, Tryz.ntmps95
      go_wp2
      go_ret
      exact ⟨ret_bool (by rw [unhide HV]; rfl), unhide HB1⟩
    | true =>
      by_cases hn0 : n = 0
      · have gn : (((n : Nat) : Int) == 0) = true := by rw [beq_iff_eq]; omega
        have HN0 := hide hn0
        clear hn0
        go_enter Tryz.func95, Tryz.ntmps95
        go_wp2
        go_ret
        exact ⟨ret_bool (by rw [unhide HV, decide_eq_true (unhide HN0)]; rfl), unhide HB1⟩
      · have gn : (((n : Nat) : Int) == 0) = false := by rw [beq_eq_false_iff_ne]; omega
        have HN0 := hide hn0
        clear hn0
        go_enter Tryz.func95, Tryz.ntmps95
        go_wp2
        go_ret
        exact ⟨ret_bool (by rw [unhide HV, decide_eq_false (unhide HN0)]; rfl), unhide HB1⟩
  have g0 : (((K : Nat) : Int) == 0) = false := by rw [beq_eq_false_iff_ne]; omega
  by_cases h1 : K = 1
  · have g1 : (((K : Nat) : Int) == 1) = true := by rw [beq_iff_eq]; omega
    have HV : Hid (v.alone = (decide (m ≤ 100) && decide (N = 0) && decide (n = 0))) := by show _ = _; rw [unhide HKD, h1]; simp
    clear h1 h0
    by_cases hm1 : m ≤ 100
    · have gm : ((m : Nat) : Int) ≤ 100 := by omega
      have HM1 := hide hm1
      clear hm1
      by_cases hN0 : N = 0
      · have gN : (N == 0) = true := beq_iff_eq.2 hN0
        have HN0 := hide hN0
        clear hN0
        by_cases hn0 : n = 0
        · have gn : (((n : Nat) : Int) == 0) = true := by rw [beq_iff_eq]; omega
          have Hn0 := hide hn0
          clear hn0
          go_enter Tryz.func95, Tryz.ntmps95
          go_wp2
          go_ret
          exact ⟨ret_bool (by rw [unhide HV, decide_eq_true (unhide HM1), decide_eq_true (unhide HN0), decide_eq_true (unhide Hn0)]; rfl), unhide HB1⟩
        · have gn : (((n : Nat) : Int) == 0) = false := by rw [beq_eq_false_iff_ne]; omega
          have Hn0 := hide hn0
          clear hn0
          go_enter Tryz.func95, Tryz.ntmps95
          go_wp2
          go_ret
          exact ⟨ret_bool (by rw [unhide HV, decide_eq_false (unhide Hn0)]; simp), unhide HB1⟩
      · have gN : (N == 0) = false := beq_eq_false_iff_ne.2 hN0
        have HN0 := hide hN0
        clear hN0
        go_enter Tryz.func95, Tryz.ntmps95
        go_wp2
        go_ret
        exact ⟨ret_bool (by rw [unhide HV, decide_eq_false (unhide HN0)]; simp), unhide HB1⟩
    · have gm : ¬ ((m : Nat) : Int) ≤ 100 := by omega
      have HM1 := hide hm1
      clear hm1
      go_enter Tryz.func95, Tryz.ntmps95
      go_wp2
      go_ret
      exact ⟨ret_bool (by rw [unhide HV, decide_eq_false (unhide HM1)]; simp), unhide HB1⟩
  have g1 : (((K : Nat) : Int) == 1) = false := by rw [beq_eq_false_iff_ne]; omega
  by_cases h2 : K = 2
  · have g2 : (((K : Nat) : Int) == 2) = true := by rw [beq_iff_eq]; omega
    have HV : Hid (v.alone = (decide (n ≤ 40) && decide (N = 0) && se)) := by show _ = _; rw [unhide HKD, h2]; simp
    clear h2 h1 h0
    by_cases hn40 : n ≤ 40
    · have gn : ((n : Nat) : Int) ≤ 40 := by omega
      have HN40 := hide hn40
      clear hn40
      by_cases hN0 : N = 0
      · have gN : (N == 0) = true := beq_iff_eq.2 hN0
        have HN0 := hide hN0
        clear hN0
        cases se with
        | false =>
          go_enter Tryz.func95, Tryz.ntmps95
          go_wp2
          go_ret
          exact ⟨ret_bool (by rw [unhide HV]; simp), unhide HB1⟩
        | true =>
          go_enter Tryz.func95, Tryz.ntmps95
          go_wp2
          go_ret
          exact ⟨ret_bool (by rw [unhide HV, decide_eq_true (unhide HN40), decide_eq_true (unhide HN0)]; rfl), unhide HB1⟩
      · have gN : (N == 0) = false := beq_eq_false_iff_ne.2 hN0
        have HN0 := hide hN0
        clear hN0
        go_enter Tryz.func95, Tryz.ntmps95
        go_wp2
        go_ret
        exact ⟨ret_bool (by rw [unhide HV, decide_eq_false (unhide HN0)]; simp), unhide HB1⟩
    · have gn : ¬ ((n : Nat) : Int) ≤ 40 := by omega
      have HN40 := hide hn40
      clear hn40
      go_enter Tryz.func95, Tryz.ntmps95
      go_wp2
      go_ret
      exact ⟨ret_bool (by rw [unhide HV, decide_eq_false (unhide HN40)]; simp), unhide HB1⟩
  · have g2 : (((K : Nat) : Int) == 2) = false := by rw [beq_eq_false_iff_ne]; omega
    have HV : Hid (v.alone = false) := by show _ = _; rw [unhide HKD, decide_eq_false h0, decide_eq_false h1, decide_eq_false h2]; simp
    clear h2 h1 h0
    go_enter Tryz.func95, Tryz.ntmps95
    go_wp2
    go_ret
    exact ⟨ret_bool (unhide HV).symm, unhide HB1⟩
end Go.Proofs.YtdlbpbglidhlfaaGreatDoor

namespace Go.Proofs.YtdlbpbglidhlfaaGreatDoor
open Go.RowKit

theorem results_cv1 {P : Program} {fn : Func} {p : Tmp} {ty : TypeId} (h : fn.results = #[.cell p ty]) (tmps : Array Value) (w : World) (g : Nat) (t : TypeId) (cs : Array Value) (fr : Nat × Nat) (d : TypeDesc)
    (hp : tmps.getD p undef = .pointer (some ⟨g, 0, none⟩)) (hg : w.heap[g]? = some (.cells cs t fr))
    (hu : P.underlying ty = some d) (hd : (match d with | .struct _ | .array _ _ => true | _ => false) = true) (hi : (P.info? ty).map (·.size) = some cs.size) :
    (results fn tmps).run P w = .ok (.agg cs) w := by
  have hp' : tmps[p]?.getD undef = .pointer (some ⟨g, 0, none⟩) := by simpa using hp
  simp only [results, h]
  simp [hp', asAddr, run_loadVar_row w g t ty cs fr d hg hu hd hi]


end Go.Proofs.YtdlbpbglidhlfaaGreatDoor

namespace Go.Proofs.YtdlbpbglidhlfaaGreatDoor
open Go.RowKit

/-- One part more. -/
theorem Rdr.count {w0 W : World} {g n c p p' : Nat} {a : Option Addr} {bs : List UInt8} (h : Rdr w0 g a n c p bs W) : Rdr w0 g a n c p' bs (W.setCell ⟨g, 1, none⟩ (.int .i64 ((p' : Nat) : Int))) :=
  ⟨h.below.setCell (p := ⟨g, 1, none⟩) h.new _, h.new, heap_setCell_same _ _ _ _ _ _ h.blk, h.bytes, h.len⟩
theorem But.new {g h : Nat} {w W : World} (hb : But g w W) (hh : w.heap.size ≤ h) (o : Nat) (v : Value) : But g w (W.setCell ⟨h, o, none⟩ v) := by
  have b := (Below.refl 0 W).setCell (p := ⟨h, o, none⟩) (Nat.zero_le _) v
  exact ⟨b.os.trans hb.os, b.tape.trans hb.tape, b.output.trans hb.output, by rw [World.size_setCell]; exact hb.size, fun k hk hn => (Below.heap_setCell _ _ _ _ (by show k ≠ h; omega)).trans (hb.block k hk hn)⟩
theorem Rdr.other {w0 W : World} {g n c p h : Nat} {a : Option Addr} {bs : List UInt8} (hr : Rdr w0 g a n c p bs W) (hh : w0.heap.size ≤ h) (hg : g ≠ h) (o : Nat) (v : Value) : Rdr w0 g a n c p bs (W.setCell ⟨h, o, none⟩ v) :=
  ⟨hr.below.setCell (p := ⟨h, o, none⟩) hh _, hr.new, (Below.heap_setCell _ _ _ _ hg).trans hr.blk, hr.bytes, hr.len⟩
/-- A reader beside the struct that is told. -/
structure Rd4 (w0 w : World) (g : Nat) (a : Option Addr) (n c p : Nat) (bs : List UInt8) (W : World) : Prop where
  but : But g w W
  rdr : Rdr w0 g a n c p bs W
  c4 : W.heap[w.heap.size]? = some (.cells #[.int .u8 0, .int .i64 0, .string ⟨#[]⟩, .slice none 0 0] 24 (0, 0))
  gw : g < w.heap.size
theorem Rd4.next {w0 w W W' : World} {g n c p n' c' p' : Nat} {a a' : Option Addr} {bs bs' : List UInt8} (h : Rd4 w0 w g a n c p bs W) (hb : But g W W') (hr : Rdr w0 g a' n' c' p' bs' W') : Rd4 w0 w g a' n' c' p' bs' W' :=
  ⟨h.but.trans hb, hr, (hb.block _ (lt_rowV h.c4) (by have := h.gw; omega)).trans h.c4, h.gw⟩
theorem Rd4.fin {w0 w W : World} {g n c p : Nat} {a : Option Addr} {bs : List UInt8} (h : Rd4 w0 w g a n c p bs W) (x y z u : Value) : But g w ((((W.setCell ⟨w.heap.size, 0, none⟩ x).setCell ⟨w.heap.size, 1, none⟩ y).setCell ⟨w.heap.size, 2, none⟩ z).setCell ⟨w.heap.size, 3, none⟩ u) ∧ Rdr w0 g a n c p bs ((((W.setCell ⟨w.heap.size, 0, none⟩ x).setCell ⟨w.heap.size, 1, none⟩ y).setCell ⟨w.heap.size, 2, none⟩ z).setCell ⟨w.heap.size, 3, none⟩ u) := by
  have h1 : g ≠ w.heap.size := by have := h.gw; omega
  have h2 : w0.heap.size ≤ w.heap.size := by have := h.gw; have := h.rdr.new; omega
  exact ⟨(((h.but.new (Nat.le_refl _) 0 x).new (Nat.le_refl _) 1 y).new (Nat.le_refl _) 2 z).new (Nat.le_refl _) 3 u, (((h.rdr.other h2 h1 0 x).other h2 h1 1 y).other h2 h1 2 z).other h2 h1 3 u⟩
theorem Rd4.cells {w0 w W : World} {g n c p : Nat} {a : Option Addr} {bs : List UInt8} (h : Rd4 w0 w g a n c p bs W) : (W.cell? ⟨w.heap.size, 0, none⟩ = some (.int .u8 0) ∧ W.cell? ⟨w.heap.size, 1, none⟩ = some (.int .i64 0) ∧ W.cell? ⟨w.heap.size, 2, none⟩ = some (.string ⟨#[]⟩) ∧ W.cell? ⟨w.heap.size, 3, none⟩ = some (.slice none 0 0)) ∧ (W.frozen? ⟨w.heap.size, 0, none⟩ = false ∧ W.frozen? ⟨w.heap.size, 1, none⟩ = false ∧ W.frozen? ⟨w.heap.size, 2, none⟩ = false ∧ W.frozen? ⟨w.heap.size, 3, none⟩ = false) := cells4 h.c4

set_option maxRecDepth 100000 in
set_option maxHeartbeats 1000000 in
theorem rValue_step (D : Nat) (hD7 : D ≤ 7) (hLC : D ≤ 6 → ListC (D + 1)) : ValueC D := by
  intro w0 g n c p a bs w hR hp
  have hgw : g < w.heap.size := lt_rowV hR.blk
  have hbl : bs.length = n := (bytes_len hR.bytes).1
  have HBL := hide hbl
  have HLC := hide hLC
  obtain ⟨P, hP⟩ : ∃ P, P = p + 1 := ⟨_, rfl⟩
  have hPi : ((p : Nat) : Int) + 1 = ((P : Nat) : Int) := by omega
  have HPE := hide hP
  obtain ⟨W1, hW1⟩ : ∃ W1, W1 = w.alloc (.cells #[.int .u8 0, .int .i64 0, .string ⟨#[]⟩, .slice none 0 0] 24) := ⟨_, rfl⟩
  have hb1 : Below w.heap.size w W1 := by rw [hW1]; exact (Below.refl _ w).alloc (Nat.le_refl _) _
  have hr1 : W1.heap[w.heap.size]? = some (.cells #[.int .u8 0, .int .i64 0, .string ⟨#[]⟩, .slice none 0 0] 24 (0, 0)) := by rw [hW1]; exact heap_alloc_new w _
  have hR1 := hR.later hb1
  have h41 : Rd4 w0 w g a n c p bs W1 := ⟨But.of hb1, hR1, hr1, hgw⟩
  obtain ⟨W2, hW2⟩ : ∃ W2, W2 = W1.setCell ⟨g, 1, none⟩ (.int .i64 ((P : Nat) : Int)) := ⟨_, rfl⟩
  have hR2 : Rdr w0 g a n c P bs W2 := by rw [hW2]; exact hR1.count
  have H42 : Hid (Rd4 w0 w g a n c P bs W2) := h41.next (by rw [hW2]; exact (But.of (Below.refl _ W1)).set 1 _) hR2
  obtain ⟨b0, b1, e0, e1⟩ := hR1.cells
  obtain ⟨d0, d1, -, -⟩ := hR2.cells
  have HW1 := hide hW1
  have HW2 := hide hW2
  clear hR hgw hbl hLC hb1 hr1 hR1 h41 hR2 hW1 hW2 hP
  go_enter Tryz.func83, Tryz.ntmps83
  go_upto_region 1 with fail
  rw [← unhide HW1]
  clear HW1
  go_upto_region 2 with fail
  rw [← unhide HW2]
  clear HW2 b0 b1 e0 e1
  go_wp2_with fail
  refine (mayBe_any D P _).mono ?_
  rintro e w' ⟨rfl, hw⟩
  rw [hw]
  clear hw w'
  by_cases hmay : D ≤ 6 ∧ P ≤ 200
  case neg =>
    rw [show (decide (D ≤ 6) && decide (P ≤ 200)) = false by rw [Bool.and_eq_false_iff]; simp; omega]
    have HNV : Hid (NoV bs (7 - D) (200 - p)) := by
      show NoV _ _ _
      by_cases h6 : D ≤ 6
      · exact noV_none (by have := unhide HPE; have : ¬ P ≤ 200 := fun h => hmay ⟨h6, h⟩; omega)
      · rw [show 7 - D = 0 by omega]; exact noVal_zero.noV
    clear hmay
    go_wp2_with fail
    refine (need_any false _).mono ?_
    rintro e w2 ⟨rfl, hw⟩
    rw [hw]
    clear hw w2
    exact ⟨rfl, (unhide H42).but, .inr ⟨unhide HNV, rfl⟩⟩
  rw [show (decide (D ≤ 6) && decide (P ≤ 200)) = true by rw [decide_eq_true hmay.1, decide_eq_true hmay.2]; rfl]
  obtain ⟨hD6, hP2⟩ := hmay
  go_wp2_with fail
  refine (need_any true _).mono ?_
  rintro e w2 ⟨rfl, hw⟩
  rw [hw]
  clear hw w2 d0 d1
  go_wp2_with fail
  refine (rNumber_any w0 g n c P a bs W2 (unhide H42).rdr).mono ?_
  rintro e W3 ⟨hu3, ⟨x, k, hr, rfl, hR3⟩ | ⟨hNo, rfl⟩⟩
  case inr =>
    have HNV : Hid (NoV bs (7 - D) (200 - p)) := (noVal_num hNo).noV
    have HU := hide ((unhide H42).but.trans hu3)
    clear hNo hu3
    go_wp2_with fail
    exact ⟨rfl, unhide HU, .inr ⟨unhide HNV, rfl⟩⟩
  have HRD := hide hr
  have H43 := hide ((unhide H42).next hu3 hR3)
  clear hr hu3 hR3 H42
  have hd1 : 7 - D = (7 - (D + 1)) + 1 := by omega
  have HD1 := hide hd1
  clear hd1
  rcases (by omega : x = 0 ∨ x = 1 ∨ x = 2 ∨ (x < 0 ∨ 2 < x)) with rfl | rfl | rfl | hx
  · go_wp2_with fail
    refine (rNumber_any w0 g _ _ P _ _ W3 (unhide H43).rdr).mono ?_
    rintro e W4 ⟨hu4, ⟨y, k2, hr2, rfl, hR4⟩ | ⟨hNo, rfl⟩⟩
    · have H44 := hide ((unhide H43).next hu4 hR4)
      have HVR := hide (vreads_num (d := 7 - D) (unhide HRD) hr2 (by omega))
      have HIY := hide hr2.inr
      clear hr2 hu4 hR4 H43
      obtain ⟨⟨c40, c41, c42, c43⟩, f40, f41, f42, f43⟩ := (unhide H44).cells
      go_wp2_with fail
      refine bodyPost_ret (results_cv1 rfl _ _ _ _ _ _ _ rfl (set4_heap (unhide H44).c4 _ _ _ _) Tryz.underlying24 rfl (by kernel_rfl)) rfl ?_
      obtain ⟨hB, hRF⟩ := (unhide H44).fin (.int .u8 0) (.int .i64 y) (.string ⟨#[]⟩) (.slice none 0 0)
      refine ⟨hB, .inl ⟨.mk 0 y [] [], k + k2, 0, 0, 0, n - k - k2, y, ⟨#[]⟩, none, wcutA (wcutA a n k) (n - k) k2, unhide HVR, ?_, rfl, ?_, by omega, ?_⟩⟩
      · simp only [VD.parts, VD.partsL]; have := unhide HPE; omega
      · rw [VD.at_iff]
        exact ⟨none, 0, rfl, by simp [VD.k], unhide HIY, Nat.zero_le _, Nat.le_refl _, Nat.zero_le _, fun j hj => absurd hj (Nat.not_lt_zero j)⟩
      · rw [List.drop_drop] at hRF
        have e : p + (VD.mk 0 y [] []).parts = P := by simp only [VD.parts, VD.partsL]; have := unhide HPE; omega
        rw [e]
        exact hRF
    · have HNV : Hid (NoV bs (7 - D) (200 - p)) := (noVal_second (unhide HRD) (by decide) hNo).noV
      have HU := hide ((unhide H43).but.trans hu4)
      clear hNo hu4
      go_wp2_with fail
      exact ⟨rfl, unhide HU, .inr ⟨unhide HNV, rfl⟩⟩
  · go_wp2_with fail
    refine (rText_any w0 g _ _ P _ _ W3 (unhide H43).rdr).mono ?_
    rintro e W4 ⟨hu4, ⟨s, k2, a', n', hr2, hn', rfl, hR4⟩ | ⟨hNo, rfl⟩⟩
    · have H44 := hide ((unhide H43).next hu4 hR4)
      have HVR := hide (vreads_text (d := 7 - D) (unhide HRD) hr2 (by omega))
      have HSM : Hid (s.length ≤ maxLen) := by show _ ≤ _; have := hr2.most; unfold maxLen; omega
      have HNE := hide hn'
      clear hr2 hu4 hR4 H43 hn'
      obtain ⟨⟨c40, c41, c42, c43⟩, f40, f41, f42, f43⟩ := (unhide H44).cells
      obtain ⟨z, hz⟩ : ∃ z : ByteArray, z = ⟨s.toArray⟩ := ⟨_, rfl⟩
      rw [← hz]
      have HZ := hide hz
      clear hz
      go_wp2_with fail
      refine bodyPost_ret (results_cv1 rfl _ _ _ _ _ _ _ rfl (set4_heap (unhide H44).c4 _ _ _ _) Tryz.underlying24 rfl (by kernel_rfl)) rfl ?_
      obtain ⟨hB, hRF⟩ := (unhide H44).fin (.int .u8 1) (.int .i64 0) (.string z) (.slice none 0 0)
      refine ⟨hB, .inl ⟨.mk 1 0 s [], k + (k2 + s.length), 1, 0, 0, n', 0, z, none, a', unhide HVR, ?_, rfl, ?_, by have := unhide HNE; omega, ?_⟩⟩
      · simp only [VD.parts, VD.partsL]; have := unhide HPE; omega
      · rw [VD.at_iff]
        exact ⟨none, 0, by rw [unhide HZ]; rfl, by simp [VD.k], by show InR 0; unfold InR; omega, unhide HSM, Nat.le_refl _, Nat.zero_le _, fun j hj => absurd hj (Nat.not_lt_zero j)⟩
      · rw [List.drop_drop] at hRF
        have e : p + (VD.mk 1 0 s []).parts = P := by simp only [VD.parts, VD.partsL]; have := unhide HPE; omega
        rw [e]
        exact hRF
    · have HNV : Hid (NoV bs (7 - D) (200 - p)) := (noVal_text (unhide HRD) hNo).noV
      have HU := hide ((unhide H43).but.trans hu4)
      clear hNo hu4
      go_wp2_with fail
      exact ⟨rfl, unhide HU, .inr ⟨unhide HNV, rfl⟩⟩
  · obtain ⟨D', hD'⟩ : ∃ D', D' = D + 1 := ⟨_, rfl⟩
    have hDi : ((D : Nat) : Int) + 1 = ((D' : Nat) : Int) := by omega
    have HDE := hide hD'
    have HC := hide (unhide HLC hD6 w0 g _ _ P _ _ W3 (unhide H43).rdr hP2)
    rw [← hD'] at HC
    clear hD'
    go_wp2_with fail
    refine (unhide HC).mono ?_
    rintro e W4 ⟨hu4, ⟨l, i, j, m, rc, n', ra, a', hrn, hl40, hLi, hpp, hm, rfl, hvs, hn', hR4⟩ | ⟨hNo, rfl⟩⟩
    · have H44 := hide ((unhide H43).next hu4 hR4)
      rw [unhide HDE] at hLi
      have HVR : Hid (VReads bs (7 - D) (.mk 2 0 [] l) (k + j)) := by
        rw [unhide HD1]
        exact vreads_list2 (unhide HRD) hrn hLi hl40 (by have := unhide HPE; omega)
      have HNE := hide hn'
      have HM := hide hm
      have HPP := hide hpp
      have HVS := hide hvs
      have HWS : Hid (w.heap.size < W3.heap.size) := lt_rowV (unhide H43).c4
      clear hrn hLi hl40 hpp hm hvs hn' hu4 hR4
      obtain ⟨⟨c40, c41, c42, c43⟩, f40, f41, f42, f43⟩ := (unhide H44).cells
      go_wp2_with fail
      refine bodyPost_ret (results_cv1 rfl _ _ _ _ _ _ _ rfl (set4_heap (unhide H44).c4 _ _ _ _) Tryz.underlying24 rfl (by kernel_rfl)) rfl ?_
      obtain ⟨hB, hRF⟩ := (unhide H44).fin (.int .u8 2) (.int .i64 0) (.string ⟨#[]⟩) (.slice ra m rc)
      refine ⟨hB, .inl ⟨.mk 2 0 [] l, k + j, 2, m, rc, n', 0, ⟨#[]⟩, ra, a', unhide HVR, ?_, rfl, ?_, by have := unhide HNE; omega, ?_⟩⟩
      · simp only [VD.parts]; have := unhide HPE; have := unhide HPP; omega
      · have hlt := unhide HWS
        exact (((((unhide HVS).set (p := ⟨w.heap.size, 0, none⟩) hlt (.int .u8 2)).set (p := ⟨w.heap.size, 1, none⟩) hlt (.int .i64 0)).set (p := ⟨w.heap.size, 2, none⟩) hlt (.string ⟨#[]⟩)).set (p := ⟨w.heap.size, 3, none⟩) hlt (.slice ra m rc)).at (k := 2) (n := 0) (s := []) (by omega) (by unfold InR; omega) (Nat.zero_le _) |>.wider fun b hb => by omega
      · rw [List.drop_drop] at hRF
        have e : p + (VD.mk 2 0 [] l).parts = P + VD.partsL l := by simp only [VD.parts]; have := unhide HPE; omega
        rw [e]
        exact hRF
    · have HNV : Hid (NoV bs (7 - D) (200 - p)) := by
        show NoV _ _ _
        rw [unhide HDE] at hNo
        rw [unhide HD1, show 200 - p = (200 - P) + 1 by have := unhide HPE; omega]
        exact noV_list (unhide HRD) hNo
      have HU := hide ((unhide H43).but.trans hu4)
      clear hNo hu4
      go_wp2_with fail
      exact ⟨rfl, unhide HU, .inr ⟨unhide HNV, rfl⟩⟩
  · have HNV : Hid (NoV bs (7 - D) (200 - p)) := (noVal_kind (unhide HRD) hx).noV
    have x0 : (x == 0) = false := by rw [beq_eq_false_iff_ne]; omega
    have x1 : (x == 1) = false := by rw [beq_eq_false_iff_ne]; omega
    have x2 : (x == 2) = false := by rw [beq_eq_false_iff_ne]; omega
    clear hx
    go_wp2
    exact ⟨rfl, (unhide H43).but, .inr ⟨unhide HNV, rfl⟩⟩

theorem rValue_any : ∀ (f D : Nat), f = 7 - D → D ≤ 7 → ValueC D
  | 0, D, h, hD => rValue_step D hD fun h6 => by omega
  | f + 1, D, h, hD => rValue_step D hD fun _ => rList_step (D + 1) (rValue_any f (D + 1) (by omega) (by omega))
end Go.Proofs.YtdlbpbglidhlfaaGreatDoor
