/- ValImplL, ValLaw, ValImplV, ValOk, ValImplK, ValImplS: our own definitions and contracts; no statement of the seat is proved here. -/
import Derived.Test.YtobgmbfoofkdeaaDoorBase07
import Derived.Test.YtobgmbfoofkdeaaDoorBase05
import Derived.Test.YtobgmbfoofkdeaaDoorBase03
import Derived.Test.YtobgmbfoofkdeaaDoorBase02
import Derived.Defers
import Derived.Recover
import Derived.Deep.RegionHeld3
import Derived.Test.YtobgmbfoofkdeaaDoorBase01
namespace Go.Proofs.YtobgmbfoofkdeaaDoor
open Go.RowKit

def ValueP (w0 : World) (g n p : Nat) (bs : List UInt8) (D : Nat) (w : World) (e : Ending) (W : World) : Prop := But g w W ∧
  ((∃ (v : VD) (j xK xl xc n' : Nat) (xN : Int) (xz : ByteArray) (xa a' : Option Addr), VReads bs (7 - D) v j ∧ p + v.parts ≤ 200 ∧ e = .returned (.agg #[.int .u8 ((xK : Nat) : Int), .int .i64 xN, .string xz, .slice xa xl xc]) ∧ v.At (fun k => w.heap.size ≤ k) W (.agg #[.int .u8 ((xK : Nat) : Int), .int .i64 xN, .string xz, .slice xa xl xc]) ∧ n' = n - j ∧ Rdr w0 g a' n' n' (p + v.parts) (bs.drop j) W) ∨
   (NoV bs (7 - D) (200 - p) ∧ e = .panicked left30))
def ListP (w0 : World) (g n p : Nat) (bs : List UInt8) (D : Nat) (w : World) (e : Ending) (W : World) : Prop := But g w W ∧
  ((∃ (l : List VD) (i j m rc n' : Nat) (ra a' : Option Addr), Reads bs ((l.length : Nat) : Int) i ∧ l.length ≤ 40 ∧ Listed bs (7 - D) i l j ∧ p + VD.partsL l ≤ 200 ∧ m = l.length ∧ e = .returned (.slice ra m rc) ∧ ValsO w.heap.size W (.slice ra m rc) l ∧ n' = n - j ∧ Rdr w0 g a' n' n' (p + VD.partsL l) (bs.drop j) W) ∨
   (NoL bs (7 - D) (200 - p) ∧ e = .panicked left30))
/-- What the reader's value tells, so deep. -/
def ValueC (D : Nat) : Prop := ∀ (w0 : World) (g n c p : Nat) (a : Option Addr) (bs : List UInt8) (w : World), Rdr w0 g a n c p bs w → p ≤ 200 → Calls Tryd.prog 43 #[.pointer (some ⟨g, 0, none⟩), .int .i64 ((D : Nat) : Int)] w (ValueP w0 g n p bs D w)
/-- What the reader's list tells. -/
def ListC (D : Nat) : Prop := ∀ (w0 : World) (g n c p : Nat) (a : Option Addr) (bs : List UInt8) (w : World), Rdr w0 g a n c p bs w → p ≤ 200 → Calls Tryd.prog 60 #[.pointer (some ⟨g, 0, none⟩), .int .i64 ((D : Nat) : Int)] w (ListP w0 g n p bs D w)

theorem ValsO.but {B0 g : Nat} {W W' : World} {r : Value} {q : List VD} (h : ValsO B0 W r q) (hg : g < B0) (hb : But g W W') : ValsO B0 W' r q := by
  obtain ⟨⟨xs, h1, h2⟩, h3⟩ := h
  refine ⟨⟨xs, ownsV_keeps h1 fun k hk => hb.block k (h1.lt k hk).2 (by have := h3 k hk; omega), fun i hi => (h2 i hi).kept (fun k hk hlt => hb.block k hlt (by have := hk.1; omega)) (fun _ h _ => h)⟩, h3⟩
/-- One more value behind the row. -/
theorem list_next {w0 w W W3 : World} {g n c p : Nat} {a : Option Addr} {bs : List UInt8} {r : Value} {q : List VD} (hv : ValsO w.heap.size W r q) (hg : g < w.heap.size) (hu : But g w W) (hu3 : But g W W3) (hR : Rdr w0 g a n c p bs W3) {x : VD} {xK xl xc : Nat} {xN : Int} {xz : ByteArray} {xa : Option Addr}
    (hx : x.At (fun k => W.heap.size ≤ k) W3 (.agg #[.int .u8 ((xK : Nat) : Int), .int .i64 xN, .string xz, .slice xa xl xc])) (hl : q.length ≤ 1048576) (ty : TypeId) :
    ∃ ra' rc' W7, (Builtin.append_ #[22, 22] ty #[r, .slice (some ⟨W3.heap.size, 0, none⟩) 1 1]).run Tryd.prog (W3.alloc (.cells #[.int .u8 ((xK : Nat) : Int), .int .i64 xN, .string xz, .slice xa xl xc] 24)) = .ok (.slice ra' (q.length + 1) rc') W7 ∧
      ValsO w.heap.size W7 (.slice ra' (q.length + 1) rc') (q ++ [x]) ∧ But g w W7 ∧ Rdr w0 g a n c p bs W7 := by
  have h3 := hv.but hg hu3
  have hu03 := hu.trans hu3
  obtain ⟨W6, hW6⟩ : ∃ W6, W6 = W3.alloc (.cells #[.int .u8 ((xK : Nat) : Int), .int .i64 xN, .string xz, .slice xa xl xc] 24) := ⟨_, rfl⟩
  have hb6 : Below W3.heap.size W3 W6 := by rw [hW6]; exact (Below.refl _ _).alloc (Nat.le_refl _) _
  have hr6 : W6.heap[W3.heap.size]? = some (.cells #[.int .u8 ((xK : Nat) : Int), .int .i64 xN, .string xz, .slice xa xl xc] 24 (0, 0)) := by rw [hW6]; exact heap_alloc_new W3 _
  obtain ⟨⟨i0, i1, i2, i3⟩, _⟩ := cells4 hr6
  have h6 := h3.later hb6
  have hx6 : x.At (fun k => w.heap.size ≤ k ∧ r.ownBlock ≠ some k) W6 (.agg #[.int .u8 ((xK : Nat) : Int), .int .i64 xN, .string xz, .slice xa xl xc]) :=
    hx.kept (fun k _ hk => hb6.block k hk) (fun k hk hlt => ⟨Nat.le_trans hu.size hk, fun e => by
      obtain ⟨xs, h1, _⟩ := hv.row
      have := (h1.lt k e).2
      omega⟩)
  obtain ⟨r', W7, hrun, hv7, hg7⟩ := h6.append (Nat.le_trans hu03.size hb6.size) hx6 (ad := ⟨W3.heap.size, 0, none⟩) (c := 1) (by rw [Addr.add_mid]; exact i0) (by rw [Addr.add_mid]; exact i1) (by rw [Addr.add_mid]; exact i2) (by rw [Addr.add_mid]; exact i3) hl ty
  obtain ⟨ra', rc', rfl, _⟩ := hv7.form
  rw [List.length_append, List.length_singleton] at hv7 hrun
  rw [hW6] at hrun
  have hu6 := hu03.trans (But.of hb6)
  have hR6 := hR.later hb6
  have hnew : ∀ k, k < w.heap.size → W7.heap[k]? = W6.heap[k]? := fun k hk => hg7.block k (Nat.lt_of_lt_of_le hk hu6.size) fun e => by
    have := h6.new k (by rw [← e])
    omega
  refine ⟨ra', rc', W7, hrun, hv7, ⟨hg7.os.trans hu6.os, hg7.tape.trans hu6.tape, hg7.output.trans hu6.output, Nat.le_trans hu6.size hg7.size, fun k hk hn => (hnew k hk).trans (hu6.block k hk hn)⟩, ?_⟩
  exact ⟨⟨hg7.os.trans hR6.below.os, hg7.tape.trans hR6.below.tape, hg7.output.trans hR6.below.output, Nat.le_trans hR6.below.size hg7.size, fun k hk => (hnew k (by have := hR.new; omega)).trans (hR6.below.block k hk)⟩, hR6.new, (hnew g hg).trans hR6.blk, hR6.bytes, hR6.len⟩

set_option maxRecDepth 100000 in
set_option maxHeartbeats 1000000 in
theorem rList_step (D : Nat) (hVC : ValueC D) : ListC D := by
  intro w0 g n c p a bs w hR hp
  have hgw : g < w.heap.size := lt_rowV hR.blk
  have hbl : bs.length = n := (bytes_len hR.bytes).1
  have HBL := hide hbl
  have HR := hide hR
  have HV := hide hVC
  have HP := hide hp
  have HG := hide hgw
  clear hR hVC hp hgw hbl
  go_enter Tryd.func60, Tryd.ntmps60
  go_wp2_with fail
  refine (rNumber_any w0 g n c p a bs w (unhide HR)).mono ?_
  rintro e w1 ⟨hu1, ⟨x, k, hr, rfl, hR1⟩ | ⟨hNo, rfl⟩⟩
  · have HU1 := hide hu1
    have HRD := hide hr
    have HR1 := hide hR1
    obtain ⟨hx1, hx2⟩ := hr.inr
    have hkn : k ≤ n := by have := hr.le; have := unhide HBL; omega
    have HKN := hide hkn
    clear hu1 hr hR1 hkn
    by_cases hneg : x < 0
    · have hge : decide (x ≥ 0) = false := by rw [decide_eq_false_iff_not]; omega
      have HNL : Hid (NoL bs (7 - D) (200 - p)) := noL_count (unhide HRD) (.inl hneg)
      clear hneg
      go_wp2_with fail
      refine (need_any false _).mono ?_
      rintro e w2 ⟨rfl, hw⟩
      rw [hw]
      clear hw w2
      exact ⟨rfl, unhide HU1, .inr ⟨unhide HNL, rfl⟩⟩
    · have hge : decide (x ≥ 0) = true := by rw [decide_eq_true_iff]; omega
      by_cases h40 : 40 < x
      · have hle : decide (x ≤ 40) = false := by rw [decide_eq_false_iff_not]; omega
        have HNL : Hid (NoL bs (7 - D) (200 - p)) := noL_count (unhide HRD) (.inr h40)
        clear hneg h40
        go_wp2_with fail
        refine (need_any false _).mono ?_
        rintro e w2 ⟨rfl, hw⟩
        rw [hw]
        clear hw w2
        exact ⟨rfl, unhide HU1, .inr ⟨unhide HNL, rfl⟩⟩
      · have hle : decide (x ≤ 40) = true := by rw [decide_eq_true_iff]; omega
        obtain ⟨N, rfl⟩ : ∃ N : Nat, x = ((N : Nat) : Int) := ⟨x.toNat, by omega⟩
        have hN40 : N ≤ 40 := by omega
        clear hneg h40 hx1 hx2
        go_wp2_with fail
        refine (need_any true _).mono ?_
        rintro e w2 ⟨rfl, hw⟩
        rw [hw]
        clear hw w2 hge hle
        go_wp2
        go_loopw [6, 17] (fun r i W => ∃ (q : List VD) (Q at1 rc n' P : Nat) (ra a' : Option Addr), q.length = Q ∧ Q ≤ N ∧ i = .int .i64 ((Q : Nat) : Int) ∧ r = .slice ra Q rc ∧ But g w W ∧ Listed bs (7 - D) k q at1 ∧ P = p + VD.partsL q ∧ P ≤ 200 ∧ ValsO w.heap.size W (.slice ra Q rc) q ∧ n' = n - at1 ∧ Rdr w0 g a' n' n' P (bs.drop at1) W) (fun _ i _ => N - (intOf i).toNat)
        case atStart => exact ⟨[], 0, k, 0, n - k, p, none, _, rfl, Nat.zero_le _, rfl, rfl, unhide HU1, Listed.nil _ _ _, by simp [VD.partsL], unhide HP, ValsO.nil _ _, rfl, unhide HR1⟩
        case round =>
          obtain ⟨q, Q, at1, rc, n', P, ra, a', hQ, hQN, rfl, rfl, hu, hL, hP, hP2, hv, hn', hR'⟩ := hrel
          have HQ := hide hQ
          have HU := hide hu
          have HL := hide hL
          have HPE := hide hP
          have HVS := hide hv
          have HNE := hide hn'
          have HR' := hide hR'
          clear hQ hu hL hP hv hn'
          by_cases hlt : Q < N
          · have hji : ((Q : Nat) : Int) < ((N : Nat) : Int) := by omega
            have HC := hide (unhide HV w0 g n' n' P a' _ wr hR' hP2)
            have HP2 := hide hP2
            clear hR' hP2
            go_wp2_with fail
            refine (unhide HC).mono ?_
            rintro e W3 ⟨hu3, ⟨v, j, xK, xl, xc, n'', xN, xz, xa, a'', hvr, hvp, rfl, hAt, hn'', hR3⟩ | ⟨hNo, rfl⟩⟩
            · obtain ⟨ra', rc', W7, hrun, hv7, hu7, hR7⟩ := list_next (unhide HVS) (unhide HG) (unhide HU) hu3 hR3 hAt (by have := unhide HQ; omega) 22
              rw [unhide HQ] at hrun hv7
              have HRUN := hide hrun
              have HV7 := hide hv7
              have HU7 := hide hu7
              have HR7 := hide hR7
              have HL7 := hide ((unhide HL).snoc hvr)
              have HVP := hide hvp
              have HN7 : Hid (n'' = n - (at1 + j)) := by show _ = _; have := unhide HNE; omega
              clear hu3 hvr hvp hAt hn'' hR3 hrun hv7 hu7 hR7
              go_wp2_with (at_builtin; refine Lib.wpList_append_run _ rfl _ _ 22 22 rfl _ _ rfl rfl _ _ (unhide HRUN) ?_)
              go_wp2
              refine ⟨⟨q ++ [v], Q + 1, at1 + j, rc', n'', P + v.parts, ra', a'', by rw [List.length_append, List.length_singleton, unhide HQ], by omega, by go_num, rfl, unhide HU7, unhide HL7, ?_, unhide HVP, unhide HV7, unhide HN7, ?_⟩, by simp [intOf]; omega⟩
              · rw [VD.partsL_append]; simp only [VD.partsL]; have := unhide HPE; omega
              · have := unhide HR7; rw [List.drop_drop] at this; exact this
            · have HNL : Hid (NoL bs (7 - D) (200 - p)) := noL_next (unhide HRD) (unhide HL) (by have := unhide HQ; omega) (by omega) (by have h1 := hNo; rw [show 200 - P = 200 - p - VD.partsL q by have := unhide HPE; omega] at h1; exact h1)
              have HUF := hide ((unhide HU).trans hu3)
              clear hNo hu3
              go_wp2_with fail
              exact ⟨rfl, unhide HUF, .inr ⟨unhide HNL, rfl⟩⟩
          · have hQe : Q = N := by omega
            have hji : ¬ ((Q : Nat) : Int) < ((N : Nat) : Int) := by omega
            have HQN : Hid (N = q.length) := by show _ = _; have := unhide HQ; omega
            have HP2 := hide hP2
            clear hR' hP2 hQN hlt
            subst hQe
            go_wp2
            go_ret
            exact ⟨unhide HU, .inl ⟨q, k, at1, _, _, n', _, a', by rw [← unhide HQN]; exact unhide HRD, by rw [← unhide HQN]; exact hN40, unhide HL, by rw [← unhide HPE]; exact unhide HP2, unhide HQN, rfl, unhide HVS, unhide HNE, by rw [← unhide HPE]; exact unhide HR'⟩⟩
  · have HU1 := hide hu1
    have HNL : Hid (NoL bs (7 - D) (200 - p)) := noL_num hNo
    clear hNo hu1
    go_wp2_with fail
    exact ⟨rfl, unhide HU1, .inr ⟨unhide HNL, rfl⟩⟩
end Go.Proofs.YtobgmbfoofkdeaaDoor

namespace Go.Proofs.YtobgmbfoofkdeaaDoor
open Go.RowKit

theorem results_cv1 {P : Program} {fn : Func} {p : Tmp} {ty : TypeId} (h : fn.results = #[.cell p ty]) (tmps : Array Value) (w : World) (g : Nat) (t : TypeId) (cs : Array Value) (fr : Nat × Nat) (d : TypeDesc)
    (hp : tmps.getD p undef = .pointer (some ⟨g, 0, none⟩)) (hg : w.heap[g]? = some (.cells cs t fr))
    (hu : P.underlying ty = some d) (hd : (match d with | .struct _ | .array _ _ => true | _ => false) = true) (hi : (P.info? ty).map (·.size) = some cs.size) :
    (results fn tmps).run P w = .ok (.agg cs) w := by
  have hp' : tmps[p]?.getD undef = .pointer (some ⟨g, 0, none⟩) := by simpa using hp
  simp only [results, h]
  simp [hp', asAddr, run_loadVar_row w g t ty cs fr d hg hu hd hi]

set_option maxRecDepth 100000 in
set_option maxHeartbeats 2000000 in
/-- num: a number. -/
theorem vNum_any (x : Int) (w : World) : Calls Tryd.prog 27 #[.int .i64 x] w fun e w' => e = .returned (.agg #[.int .u8 0, .int .i64 x, .string ⟨#[]⟩, .slice none 0 0]) ∧ Below w.heap.size w w' := by
  obtain ⟨w1, hw1⟩ : ∃ w1, w1 = w.alloc (.cells #[.int .u8 0, .int .i64 0, .string ⟨#[]⟩, .slice none 0 0] 24) := ⟨_, rfl⟩
  have HB1 : Hid (Below w.heap.size w w1) := by rw [hw1]; exact (Below.refl _ w).alloc (Nat.le_refl _) _
  have HG1 : Hid (w1.heap[w.heap.size]? = some (.cells #[.int .u8 0, .int .i64 0, .string ⟨#[]⟩, .slice none 0 0] 24 (0, 0))) := by rw [hw1]; exact heap_alloc_new w _
  have HW1 := hide hw1
  clear hw1
  obtain ⟨⟨c40, c41, c42, c43⟩, f40, f41, f42, f43⟩ := cells4 (unhide HG1)
  go_enter Tryd.func27, Tryd.ntmps27
  go_upto_region 1 with fail
  rw [← unhide HW1]
  clear HW1
  go_wp2_with fail
  refine bodyPost_ret (results_cv1 rfl _ _ _ _ _ _ _ rfl (set4_heap (unhide HG1) _ _ _ _) Tryd.underlying24 rfl (by kernel_rfl)) rfl ?_
  exact ⟨rfl, set4_below (unhide HB1) (Nat.le_refl _) _ _ _ _⟩

set_option maxRecDepth 100000 in
set_option maxHeartbeats 2000000 in
/-- text: a text. -/
theorem vText_any (z : ByteArray) (w : World) : Calls Tryd.prog 30 #[.string z] w fun e w' => e = .returned (.agg #[.int .u8 1, .int .i64 0, .string z, .slice none 0 0]) ∧ Below w.heap.size w w' := by
  obtain ⟨w1, hw1⟩ : ∃ w1, w1 = w.alloc (.cells #[.int .u8 0, .int .i64 0, .string ⟨#[]⟩, .slice none 0 0] 24) := ⟨_, rfl⟩
  have HB1 : Hid (Below w.heap.size w w1) := by rw [hw1]; exact (Below.refl _ w).alloc (Nat.le_refl _) _
  have HG1 : Hid (w1.heap[w.heap.size]? = some (.cells #[.int .u8 0, .int .i64 0, .string ⟨#[]⟩, .slice none 0 0] 24 (0, 0))) := by rw [hw1]; exact heap_alloc_new w _
  have HW1 := hide hw1
  clear hw1
  obtain ⟨⟨c40, c41, c42, c43⟩, f40, f41, f42, f43⟩ := cells4 (unhide HG1)
  go_enter Tryd.func30, Tryd.ntmps30
  go_upto_region 1 with fail
  rw [← unhide HW1]
  clear HW1
  go_wp2_with fail
  refine bodyPost_ret (results_cv1 rfl _ _ _ _ _ _ _ rfl (set4_heap (unhide HG1) _ _ _ _) Tryd.underlying24 rfl (by kernel_rfl)) rfl ?_
  exact ⟨rfl, set4_below (unhide HB1) (Nat.le_refl _) _ _ _ _⟩

set_option maxRecDepth 100000 in
set_option maxHeartbeats 2000000 in
/-- list: a list. -/
theorem vList_any (a : Option Addr) (n c : Nat) (w : World) : Calls Tryd.prog 28 #[.slice a n c] w fun e w' => e = .returned (.agg #[.int .u8 2, .int .i64 0, .string ⟨#[]⟩, .slice a n c]) ∧ Below w.heap.size w w' := by
  obtain ⟨w1, hw1⟩ : ∃ w1, w1 = w.alloc (.cells #[.int .u8 0, .int .i64 0, .string ⟨#[]⟩, .slice none 0 0] 24) := ⟨_, rfl⟩
  have HB1 : Hid (Below w.heap.size w w1) := by rw [hw1]; exact (Below.refl _ w).alloc (Nat.le_refl _) _
  have HG1 : Hid (w1.heap[w.heap.size]? = some (.cells #[.int .u8 0, .int .i64 0, .string ⟨#[]⟩, .slice none 0 0] 24 (0, 0))) := by rw [hw1]; exact heap_alloc_new w _
  have HW1 := hide hw1
  clear hw1
  obtain ⟨⟨c40, c41, c42, c43⟩, f40, f41, f42, f43⟩ := cells4 (unhide HG1)
  go_enter Tryd.func28, Tryd.ntmps28
  go_upto_region 1 with fail
  rw [← unhide HW1]
  clear HW1
  go_wp2_with fail
  refine bodyPost_ret (results_cv1 rfl _ _ _ _ _ _ _ rfl (set4_heap (unhide HG1) _ _ _ _) Tryd.underlying24 rfl (by kernel_rfl)) rfl ?_
  exact ⟨rfl, set4_below (unhide HB1) (Nat.le_refl _) _ _ _ _⟩
end Go.Proofs.YtobgmbfoofkdeaaDoor

namespace Go.Proofs.YtobgmbfoofkdeaaDoor
open Go.RowKit

/-- One part more. -/
theorem Rdr.count {w0 W : World} {g n c p p' : Nat} {a : Option Addr} {bs : List UInt8} (h : Rdr w0 g a n c p bs W) : Rdr w0 g a n c p' bs (W.setCell ⟨g, 1, none⟩ (.int .i64 ((p' : Nat) : Int))) :=
  ⟨h.below.setCell (p := ⟨g, 1, none⟩) h.new _, h.new, heap_setCell_same _ _ _ _ _ _ h.blk, h.bytes, h.len⟩
theorem But.new {g h : Nat} {w W : World} (hb : But g w W) (hh : w.heap.size ≤ h) (o : Nat) (v : Value) : But g w (W.setCell ⟨h, o, none⟩ v) := by
  have b := (Below.refl 0 W).setCell (p := ⟨h, o, none⟩) (Nat.zero_le _) v
  exact ⟨b.os.trans hb.os, b.tape.trans hb.tape, b.output.trans hb.output, by rw [World.size_setCell]; exact hb.size, fun k hk hn => (Below.heap_setCell _ _ _ _ (by show k ≠ h; omega)).trans (hb.block k hk hn)⟩
theorem Rdr.other {w0 W : World} {g n c p h : Nat} {a : Option Addr} {bs : List UInt8} (hr : Rdr w0 g a n c p bs W) (hh : w0.heap.size ≤ h) (hg : g ≠ h) (o : Nat) (v : Value) : Rdr w0 g a n c p bs (W.setCell ⟨h, o, none⟩ v) :=
  ⟨hr.below.setCell (p := ⟨h, o, none⟩) hh _, hr.new, (Below.heap_setCell _ _ _ _ hg).trans hr.blk, hr.bytes, hr.len⟩
/-- A reader beside the struct that is told. -/
structure Rd4 (w0 w : World) (g : Nat) (a : Option Addr) (n c p : Nat) (bs : List UInt8) (W : World) : Prop where
  but : But g w W
  rdr : Rdr w0 g a n c p bs W
  c4 : W.heap[w.heap.size]? = some (.cells #[.int .u8 0, .int .i64 0, .string ⟨#[]⟩, .slice none 0 0] 24 (0, 0))
  gw : g < w.heap.size
theorem Rd4.next {w0 w W W' : World} {g n c p n' c' p' : Nat} {a a' : Option Addr} {bs bs' : List UInt8} (h : Rd4 w0 w g a n c p bs W) (hb : But g W W') (hr : Rdr w0 g a' n' c' p' bs' W') : Rd4 w0 w g a' n' c' p' bs' W' :=
  ⟨h.but.trans hb, hr, (hb.block _ (lt_rowV h.c4) (by have := h.gw; omega)).trans h.c4, h.gw⟩
theorem Rd4.fin {w0 w W : World} {g n c p : Nat} {a : Option Addr} {bs : List UInt8} (h : Rd4 w0 w g a n c p bs W) (x y z u : Value) : But g w ((((W.setCell ⟨w.heap.size, 0, none⟩ x).setCell ⟨w.heap.size, 1, none⟩ y).setCell ⟨w.heap.size, 2, none⟩ z).setCell ⟨w.heap.size, 3, none⟩ u) ∧ Rdr w0 g a n c p bs ((((W.setCell ⟨w.heap.size, 0, none⟩ x).setCell ⟨w.heap.size, 1, none⟩ y).setCell ⟨w.heap.size, 2, none⟩ z).setCell ⟨w.heap.size, 3, none⟩ u) := by
  have h1 : g ≠ w.heap.size := by have := h.gw; omega
  have h2 : w0.heap.size ≤ w.heap.size := by have := h.gw; have := h.rdr.new; omega
  exact ⟨(((h.but.new (Nat.le_refl _) 0 x).new (Nat.le_refl _) 1 y).new (Nat.le_refl _) 2 z).new (Nat.le_refl _) 3 u, (((h.rdr.other h2 h1 0 x).other h2 h1 1 y).other h2 h1 2 z).other h2 h1 3 u⟩
theorem Rd4.cells {w0 w W : World} {g n c p : Nat} {a : Option Addr} {bs : List UInt8} (h : Rd4 w0 w g a n c p bs W) : (W.cell? ⟨w.heap.size, 0, none⟩ = some (.int .u8 0) ∧ W.cell? ⟨w.heap.size, 1, none⟩ = some (.int .i64 0) ∧ W.cell? ⟨w.heap.size, 2, none⟩ = some (.string ⟨#[]⟩) ∧ W.cell? ⟨w.heap.size, 3, none⟩ = some (.slice none 0 0)) ∧ (W.frozen? ⟨w.heap.size, 0, none⟩ = false ∧ W.frozen? ⟨w.heap.size, 1, none⟩ = false ∧ W.frozen? ⟨w.heap.size, 2, none⟩ = false ∧ W.frozen? ⟨w.heap.size, 3, none⟩ = false) := cells4 h.c4

set_option maxRecDepth 100000 in
set_option maxHeartbeats 1000000 in
theorem rValue_step (D : Nat) (hD7 : D ≤ 7) (hLC : D ≤ 6 → ListC (D + 1)) : ValueC D := by
  intro w0 g n c p a bs w hR hp
  have hgw : g < w.heap.size := lt_rowV hR.blk
  have hbl : bs.length = n := (bytes_len hR.bytes).1
  have HBL := hide hbl
  have HLC := hide hLC
  obtain ⟨P, hP⟩ : ∃ P, P = p + 1 := ⟨_, rfl⟩
  have hPi : ((p : Nat) : Int) + 1 = ((P : Nat) : Int) := by omega
  have HPE := hide hP
  obtain ⟨W1, hW1⟩ : ∃ W1, W1 = w.alloc (.cells #[.int .u8 0, .int .i64 0, .string ⟨#[]⟩, .slice none 0 0] 24) := ⟨_, rfl⟩
  have hb1 : Below w.heap.size w W1 := by rw [hW1]; exact (Below.refl _ w).alloc (Nat.le_refl _) _
  have hr1 : W1.heap[w.heap.size]? = some (.cells #[.int .u8 0, .int .i64 0, .string ⟨#[]⟩, .slice none 0 0] 24 (0, 0)) := by rw [hW1]; exact heap_alloc_new w _
  have hR1 := hR.later hb1
  have h41 : Rd4 w0 w g a n c p bs W1 := ⟨But.of hb1, hR1, hr1, hgw⟩
  obtain ⟨W2, hW2⟩ : ∃ W2, W2 = W1.setCell ⟨g, 1, none⟩ (.int .i64 ((P : Nat) : Int)) := ⟨_, rfl⟩
  have hR2 : Rdr w0 g a n c P bs W2 := by rw [hW2]; exact hR1.count
  have H42 : Hid (Rd4 w0 w g a n c P bs W2) := h41.next (by rw [hW2]; exact (But.of (Below.refl _ W1)).set 1 _) hR2
  obtain ⟨b0, b1, e0, e1⟩ := hR1.cells
  obtain ⟨d0, d1, -, -⟩ := hR2.cells
  have HW1 := hide hW1
  have HW2 := hide hW2
  clear hR hgw hbl hLC hb1 hr1 hR1 h41 hR2 hW1 hW2 hP
  go_enter Tryd.func43, Tryd.ntmps43
  go_upto_region 1 with fail
  rw [← unhide HW1]
  clear HW1
  go_upto_region 2 with fail
  rw [← unhide HW2]
  clear HW2 b0 b1 e0 e1
  go_wp2_with fail
  refine (mayBe_any D P _).mono ?_
  rintro e w' ⟨rfl, hw⟩
  rw [hw]
  clear hw w'
  by_cases hmay : D ≤ 6 ∧ P ≤ 200
  case neg =>
    rw [show (decide (D ≤ 6) && decide (P ≤ 200)) = false by rw [Bool.and_eq_false_iff]; simp; omega]
    have HNV : Hid (NoV bs (7 - D) (200 - p)) := by
      show NoV _ _ _
      by_cases h6 : D ≤ 6
      · exact noV_none (by have := unhide HPE; have : ¬ P ≤ 200 := fun h => hmay ⟨h6, h⟩; omega)
      · rw [show 7 - D = 0 by omega]; exact noVal_zero.noV
    clear hmay
    go_wp2_with fail
    refine (need_any false _).mono ?_
    rintro e w2 ⟨rfl, hw⟩
    rw [hw]
    clear hw w2
    exact ⟨rfl, (unhide H42).but, .inr ⟨unhide HNV, rfl⟩⟩
  rw [show (decide (D ≤ 6) && decide (P ≤ 200)) = true by rw [decide_eq_true hmay.1, decide_eq_true hmay.2]; rfl]
  obtain ⟨hD6, hP2⟩ := hmay
  go_wp2_with fail
  refine (need_any true _).mono ?_
  rintro e w2 ⟨rfl, hw⟩
  rw [hw]
  clear hw w2 d0 d1
  go_wp2_with fail
  refine (rNumber_any w0 g n c P a bs W2 (unhide H42).rdr).mono ?_
  rintro e W3 ⟨hu3, ⟨x, k, hr, rfl, hR3⟩ | ⟨hNo, rfl⟩⟩
  case inr =>
    have HNV : Hid (NoV bs (7 - D) (200 - p)) := (noVal_num hNo).noV
    have HU := hide ((unhide H42).but.trans hu3)
    clear hNo hu3
    go_wp2_with fail
    exact ⟨rfl, unhide HU, .inr ⟨unhide HNV, rfl⟩⟩
  have HRD := hide hr
  have H43 := hide ((unhide H42).next hu3 hR3)
  clear hr hu3 hR3 H42
  have hd1 : 7 - D = (7 - (D + 1)) + 1 := by omega
  have HD1 := hide hd1
  clear hd1
  rcases (by omega : x = 0 ∨ x = 1 ∨ x = 2 ∨ (x < 0 ∨ 2 < x)) with rfl | rfl | rfl | hx
  · go_wp2_with fail
    refine (rNumber_any w0 g _ _ P _ _ W3 (unhide H43).rdr).mono ?_
    rintro e W4 ⟨hu4, ⟨y, k2, hr2, rfl, hR4⟩ | ⟨hNo, rfl⟩⟩
    · have H44 := hide ((unhide H43).next hu4 hR4)
      have HVR := hide (vreads_num (d := 7 - D) (unhide HRD) hr2 (by omega))
      have HIY := hide hr2.inr
      clear hr2 hu4 hR4 H43
      obtain ⟨⟨c40, c41, c42, c43⟩, f40, f41, f42, f43⟩ := (unhide H44).cells
      go_wp2_with fail
      refine bodyPost_ret (results_cv1 rfl _ _ _ _ _ _ _ rfl (set4_heap (unhide H44).c4 _ _ _ _) Tryd.underlying24 rfl (by kernel_rfl)) rfl ?_
      obtain ⟨hB, hRF⟩ := (unhide H44).fin (.int .u8 0) (.int .i64 y) (.string ⟨#[]⟩) (.slice none 0 0)
      refine ⟨hB, .inl ⟨.mk 0 y [] [], k + k2, 0, 0, 0, n - k - k2, y, ⟨#[]⟩, none, wcutA (wcutA a n k) (n - k) k2, unhide HVR, ?_, rfl, ?_, by omega, ?_⟩⟩
      · simp only [VD.parts, VD.partsL]; have := unhide HPE; omega
      · rw [VD.at_iff]
        exact ⟨none, 0, rfl, by simp [VD.k], unhide HIY, Nat.zero_le _, Nat.le_refl _, Nat.zero_le _, fun j hj => absurd hj (Nat.not_lt_zero j)⟩
      · rw [List.drop_drop] at hRF
        have e : p + (VD.mk 0 y [] []).parts = P := by simp only [VD.parts, VD.partsL]; have := unhide HPE; omega
        rw [e]
        exact hRF
    · have HNV : Hid (NoV bs (7 - D) (200 - p)) := (noVal_second (unhide HRD) (by decide) hNo).noV
      have HU := hide ((unhide H43).but.trans hu4)
      clear hNo hu4
      go_wp2_with fail
      exact ⟨rfl, unhide HU, .inr ⟨unhide HNV, rfl⟩⟩
  · go_wp2_with fail
    refine (rText_any w0 g _ _ P _ _ W3 (unhide H43).rdr).mono ?_
    rintro e W4 ⟨hu4, ⟨s, k2, a', n', hr2, hn', rfl, hR4⟩ | ⟨hNo, rfl⟩⟩
    · have H44 := hide ((unhide H43).next hu4 hR4)
      have HVR := hide (vreads_text (d := 7 - D) (unhide HRD) hr2 (by omega))
      have HSM : Hid (s.length ≤ maxLen) := by show _ ≤ _; have := hr2.most; unfold maxLen; omega
      have HNE := hide hn'
      clear hr2 hu4 hR4 H43 hn'
      obtain ⟨⟨c40, c41, c42, c43⟩, f40, f41, f42, f43⟩ := (unhide H44).cells
      obtain ⟨z, hz⟩ : ∃ z : ByteArray, z = ⟨s.toArray⟩ := ⟨_, rfl⟩
      rw [← hz]
      have HZ := hide hz
      clear hz
      go_wp2_with fail
      refine bodyPost_ret (results_cv1 rfl _ _ _ _ _ _ _ rfl (set4_heap (unhide H44).c4 _ _ _ _) Tryd.underlying24 rfl (by kernel_rfl)) rfl ?_
      obtain ⟨hB, hRF⟩ := (unhide H44).fin (.int .u8 1) (.int .i64 0) (.string z) (.slice none 0 0)
      refine ⟨hB, .inl ⟨.mk 1 0 s [], k + (k2 + s.length), 1, 0, 0, n', 0, z, none, a', unhide HVR, ?_, rfl, ?_, by have := unhide HNE; omega, ?_⟩⟩
      · simp only [VD.parts, VD.partsL]; have := unhide HPE; omega
      · rw [VD.at_iff]
        exact ⟨none, 0, by rw [unhide HZ]; rfl, by simp [VD.k], by show InR 0; unfold InR; omega, unhide HSM, Nat.le_refl _, Nat.zero_le _, fun j hj => absurd hj (Nat.not_lt_zero j)⟩
      · rw [List.drop_drop] at hRF
        have e : p + (VD.mk 1 0 s []).parts = P := by simp only [VD.parts, VD.partsL]; have := unhide HPE; omega
        rw [e]
        exact hRF
    · have HNV : Hid (NoV bs (7 - D) (200 - p)) := (noVal_text (unhide HRD) hNo).noV
      have HU := hide ((unhide H43).but.trans hu4)
      clear hNo hu4
      go_wp2_with fail
      exact ⟨rfl, unhide HU, .inr ⟨unhide HNV, rfl⟩⟩
  · obtain ⟨D', hD'⟩ : ∃ D', D' = D + 1 := ⟨_, rfl⟩
    have hDi : ((D : Nat) : Int) + 1 = ((D' : Nat) : Int) := by omega
    have HDE := hide hD'
    have HC := hide (unhide HLC hD6 w0 g _ _ P _ _ W3 (unhide H43).rdr hP2)
    rw [← hD'] at HC
    clear hD'
    go_wp2_with fail
    refine (unhide HC).mono ?_
    rintro e W4 ⟨hu4, ⟨l, i, j, m, rc, n', ra, a', hrn, hl40, hLi, hpp, hm, rfl, hvs, hn', hR4⟩ | ⟨hNo, rfl⟩⟩
    · have H44 := hide ((unhide H43).next hu4 hR4)
      rw [unhide HDE] at hLi
      have HVR : Hid (VReads bs (7 - D) (.mk 2 0 [] l) (k + j)) := by
        rw [unhide HD1]
        exact vreads_list2 (unhide HRD) hrn hLi hl40 (by have := unhide HPE; omega)
      have HNE := hide hn'
      have HM := hide hm
      have HPP := hide hpp
      have HVS := hide hvs
      have HWS : Hid (w.heap.size < W3.heap.size) := lt_rowV (unhide H43).c4
      clear hrn hLi hl40 hpp hm hvs hn' hu4 hR4
      obtain ⟨⟨c40, c41, c42, c43⟩, f40, f41, f42, f43⟩ := (unhide H44).cells
      go_wp2_with fail
      refine bodyPost_ret (results_cv1 rfl _ _ _ _ _ _ _ rfl (set4_heap (unhide H44).c4 _ _ _ _) Tryd.underlying24 rfl (by kernel_rfl)) rfl ?_
      obtain ⟨hB, hRF⟩ := (unhide H44).fin (.int .u8 2) (.int .i64 0) (.string ⟨#[]⟩) (.slice ra m rc)
      refine ⟨hB, .inl ⟨.mk 2 0 [] l, k + j, 2, m, rc, n', 0, ⟨#[]⟩, ra, a', unhide HVR, ?_, rfl, ?_, by have := unhide HNE; omega, ?_⟩⟩
      · simp only [VD.parts]; have := unhide HPE; have := unhide HPP; omega
      · have hlt := unhide HWS
        exact (((((unhide HVS).set (p := ⟨w.heap.size, 0, none⟩) hlt (.int .u8 2)).set (p := ⟨w.heap.size, 1, none⟩) hlt (.int .i64 0)).set (p := ⟨w.heap.size, 2, none⟩) hlt (.string ⟨#[]⟩)).set (p := ⟨w.heap.size, 3, none⟩) hlt (.slice ra m rc)).at (k := 2) (n := 0) (s := []) (by omega) (by unfold InR; omega) (Nat.zero_le _) |>.wider fun b hb => by omega
      · rw [List.drop_drop] at hRF
        have e : p + (VD.mk 2 0 [] l).parts = P + VD.partsL l := by simp only [VD.parts]; have := unhide HPE; omega
        rw [e]
        exact hRF
    · have HNV : Hid (NoV bs (7 - D) (200 - p)) := by
        show NoV _ _ _
        rw [unhide HDE] at hNo
        rw [unhide HD1, show 200 - p = (200 - P) + 1 by have := unhide HPE; omega]
        exact noV_list (unhide HRD) hNo
      have HU := hide ((unhide H43).but.trans hu4)
      clear hNo hu4
      go_wp2_with fail
      exact ⟨rfl, unhide HU, .inr ⟨unhide HNV, rfl⟩⟩
  · have HNV : Hid (NoV bs (7 - D) (200 - p)) := (noVal_kind (unhide HRD) hx).noV
    have x0 : (x == 0) = false := by rw [beq_eq_false_iff_ne]; omega
    have x1 : (x == 1) = false := by rw [beq_eq_false_iff_ne]; omega
    have x2 : (x == 2) = false := by rw [beq_eq_false_iff_ne]; omega
    clear hx
    go_wp2
    exact ⟨rfl, (unhide H43).but, .inr ⟨unhide HNV, rfl⟩⟩

theorem rValue_any : ∀ (f D : Nat), f = 7 - D → D ≤ 7 → ValueC D
  | 0, D, h, hD => rValue_step D hD fun h6 => by omega
  | f + 1, D, h, hD => rValue_step D hD fun _ => rList_step (D + 1) (rValue_any f (D + 1) (by omega) (by omega))
end Go.Proofs.YtobgmbfoofkdeaaDoor

namespace Go.Proofs.YtobgmbfoofkdeaaDoor
open Go.RowKit

/-- A value that the statements ask of: no deeper than 20, of at most 600 parts. -/
def VD.Light (v : VD) : Prop := v.deep ≤ 20 ∧ v.parts ≤ 600
theorem VReads.light {b : List UInt8} {d j : Nat} {v : VD} (h : VReads b d v j) (hd : d ≤ 20) : v.Light := ⟨Nat.le_trans h.deep hd, Nat.le_trans h.parts (by omega)⟩

/-- What Take tells, in memory. -/
def TookVM (w : World) (n : Nat) (bs : List UInt8) (e : Ending) (W : World) : Prop :=
  (∃ (v : VD) (j : Nat) (u : Value) (ra : Option Addr) (rc : Nat), VReads bs 6 v j ∧ v.At (fun k => w.heap.size ≤ k) W u ∧ Bytes W (.slice ra (n - j) rc) (bs.drop j) ∧ e = .returned (.tuple #[u, .slice ra (n - j) rc, .int .i64 0])) ∨
  (NoVal bs 6 ∧ e = .returned (.tuple #[zeroV, .slice none 0 0, .int .i64 30]))
/-- What Parse tells, in memory. -/
def ParsedV (w : World) (bs : List UInt8) (e : Ending) (W : World) : Prop :=
  (∃ (v : VD) (u : Value), VReads bs 6 v bs.length ∧ v.At (fun k => w.heap.size ≤ k) W u ∧ e = .returned (.tuple #[u, .int .i64 0])) ∨
  ((∀ v, ¬ VReads bs 6 v bs.length) ∧ e = .returned (.tuple #[zeroV, .int .i64 30]))

structure ValOk : Prop where
  right : ∀ (v : VD) (B : Nat → Prop) (u : Value) (w : World), v.At B w u → v.Light → Calls Tryd.prog 12 #[u] w fun e w' => e = .returned (.bool v.right) ∧ Below w.heap.size w w'
  parts : ∀ (v : VD) (B : Nat → Prop) (u : Value) (w : World), v.At B w u → v.Light → Calls Tryd.prog 13 #[u] w fun e w' => e = .returned (.int .i64 ((v.parts : Nat) : Int)) ∧ Below w.heap.size w w'
  same : ∀ (v x : VD) (B C : Nat → Prop) (u y : Value) (w : World), v.At B w u → x.At C w y → v.Light → x.Light → Calls Tryd.prog 15 #[u, y] w fun e w' => e = .returned (.bool (v.same x)) ∧ Below w.heap.size w w'
  copy : ∀ (v : VD) (B : Nat → Prop) (u : Value) (w : World), v.At B w u → v.Light → Calls Tryd.prog 25 #[u] w fun e w' => ∃ r, e = .returned r ∧ v.At (fun k => w.heap.size ≤ k ∧ ∀ i, w'.frozen? ⟨k, i, none⟩ = false) w' r ∧ Below w.heap.size w w'
  put : ∀ (v : VD) (B : Nat → Prop) (u p : Value) (bs : List UInt8) (w : World), v.At B w u → v.right = true → Bytes w p bs → bs.length ≤ 1048576 → Calls Tryd.prog 24 #[p, u] w fun e w' => ∃ r, e = .returned r ∧ Own w r (bs ++ v.bytes) w'
  bytes : ∀ (v : VD) (B : Nat → Prop) (u : Value) (w : World), v.At B w u → v.Light → v.right = true → Calls Tryd.prog 10 #[u] w fun e w' => ∃ r, e = .returned (.tuple #[r, .int .i64 0]) ∧ Own w r v.bytes w'
  noBytes : ∀ (v : VD) (B : Nat → Prop) (u : Value) (w : World), v.At B w u → v.Light → v.right = false → Calls Tryd.prog 10 #[u] w fun e w' => (∃ a c, e = .returned (.tuple #[.slice a 0 c, .int .i64 2]) ∧ Bytes w' (.slice a 0 c) []) ∧ Below w.heap.size w w'
  take : ∀ (a : Option Addr) (n c : Nat) (bs : List UInt8) (w : World), Bytes w (.slice a n c) bs → n ≤ 1048576 → Calls Tryd.prog 21 #[.slice a n c] w fun e w' => TookVM w n bs e w' ∧ Below w.heap.size w w'
  parse : ∀ (a : Option Addr) (n c : Nat) (bs : List UInt8) (w : World), Bytes w (.slice a n c) bs → n ≤ 1048576 → Calls Tryd.prog 23 #[.slice a n c] w fun e w' => ParsedV w bs e w' ∧ Below w.heap.size w w'
  shown : ∀ (v : VD) (B : Nat → Prop) (u : Value) (w : World), v.At B w u → v.right = true → Calls Tryd.prog 19 #[u] w fun e w' => e = .returned (.string ⟨v.shown.toArray⟩) ∧ Below w.heap.size w w'
end Go.Proofs.YtobgmbfoofkdeaaDoor

namespace Go.Proofs.YtobgmbfoofkdeaaDoor
open Go.RowKit

theorem catch_panicking (p : Addr) (x : Int) (u : TypeId) (pv : Value) (older : List PanicEntry) (w : World) (hc : w.cell? p = some (.int .i64 x)) (hz : w.frozen? p = false) :
    CallsD Tryd.prog 42 #[.pointer (some p)] (.panicking ({ v := .iface u pv, recovered := false } :: older)) w fun e u' w' =>
      e = .returned (.tuple #[]) ∧ u' = .panicking ({ v := .iface u pv, recovered := true } :: older) ∧ w' = w.setCell p (.int .i64 30) := by
  refine callsD_of_wpS Tryd.func42 rfl fun c₀ cs hu => ?_
  apply wpS_seq
  apply wpS_region
  simp [wpOpsS, go_sem, recoverD, hu, Tryd.ntmps42, Exit.thenS]
  refine wpS_cond (t := true) (by simp [Act.eval, Array.replicate]) ?_
  simp only [if_true]
  apply wpS_region
  simp [wpOpsS, go_sem, hc, hz, bodyPostS, results, Tryd.results42]

theorem catch_idle (p : Addr) (w : World) :
    CallsD Tryd.prog 42 #[.pointer (some p)] .returning w fun e u' w' => e = .returned (.tuple #[]) ∧ u' = .returning ∧ w' = w := by
  refine callsD_of_wpS Tryd.func42 rfl fun c₀ cs hu => ?_
  apply wpS_seq
  apply wpS_region
  simp [wpOpsS, go_sem, recoverD, hu, Tryd.ntmps42, Exit.thenS]
  refine wpS_cond (t := false) (by simp [Act.eval, Array.replicate]) ?_
  simp only [Bool.false_eq_true, if_false]
  refine wpS_of_wp (wp_skip ?_)
  cases c₀
  simp_all [bodyPostS, results, Tryd.results42]

theorem results_ctc {P : Program} {fn : Func} {p q u : Tmp} {ty ty2 : TypeId} (h : fn.results = #[.cell p ty, .tmp u, .cell q ty2]) (tmps : Array Value) (w : World) (g g2 : Nat) (t : TypeId) (cs : Array Value) (fr : Nat × Nat) (d : TypeDesc) (x : Value)
    (hp : tmps.getD p undef = .pointer (some ⟨g, 0, none⟩)) (hg : w.heap[g]? = some (.cells cs t fr))
    (hu : P.underlying ty = some d) (hd : (match d with | .struct _ | .array _ _ => true | _ => false) = true) (hi : (P.info? ty).map (·.size) = some cs.size)
    (hq : tmps.getD q undef = .pointer (some ⟨g2, 0, none⟩)) (hx : (loadVar ty2 ⟨g2, 0, none⟩).run P w = .ok x w) :
    (results fn tmps).run P w = .ok (.tuple #[.agg cs, tmps.getD u undef, x]) w := by
  have hp' : tmps[p]?.getD undef = .pointer (some ⟨g, 0, none⟩) := by simpa using hp
  have hq' : tmps[q]?.getD undef = .pointer (some ⟨g2, 0, none⟩) := by simpa using hq
  simp only [results, h]
  simp [Result.andThen, hp', hq', asAddr, run_loadVar_row w g t ty cs fr d hg hu hd hi, hx]
theorem load_errno {w : World} {g : Nat} {x : Int} (h : w.cell? ⟨g, 0, none⟩ = some (.int .i64 x)) : (loadVar 28 ⟨g, 0, none⟩).run Tryd.prog w = .ok (.int .i64 x) w := by
  simp [go_sem, h]

/-- Behind the reader's value: what is told lies in three blocks. -/
structure TkS (w : World) (v : VD) (xK xl xc : Nat) (xN : Int) (xz : ByteArray) (xa a' : Option Addr) (n' P : Nat) (bs : List UInt8) (W : World) : Prop where
  h2 : W.heap[w.heap.size]? = some (.cells #[.int .u8 ((xK : Nat) : Int), .int .i64 xN, .string xz, .slice xa xl xc] 24 (0, 0))
  h4 : W.heap[w.heap.size + 1]? = some (.cells #[.int .i64 0] 28 (0, 0))
  val : v.At (fun k => w.heap.size + 3 ≤ k) W (.agg #[.int .u8 ((xK : Nat) : Int), .int .i64 xN, .string xz, .slice xa xl xc])
  rdr : Rdr w (w.heap.size + 2) a' n' n' P bs W
section
variable {w W : World} {v : VD} {xK xl xc n' P : Nat} {xN : Int} {xz : ByteArray} {xa a' : Option Addr} {bs : List UInt8}
theorem TkS.setE (h : TkS w v xK xl xc xN xz xa a' n' P bs W) : TkS w v xK xl xc xN xz xa a' n' P bs (W.setCell ⟨w.heap.size + 1, 0, none⟩ (.int .i64 0)) :=
  ⟨(Below.heap_setCell _ _ _ _ (by show w.heap.size ≠ w.heap.size + 1; omega)).trans h.h2, heap_setCell_same _ _ _ _ _ _ h.h4, h.val.kept (fun k hk _ => Below.heap_setCell _ _ _ _ (by show k ≠ w.heap.size + 1; omega)) (fun _ hk _ => hk), h.rdr.other (by omega) (by omega) 0 _⟩
theorem set4_other {W : World} {g k : Nat} (x y z u : Value) (hk : k ≠ g) : ((((W.setCell ⟨g, 0, none⟩ x).setCell ⟨g, 1, none⟩ y).setCell ⟨g, 2, none⟩ z).setCell ⟨g, 3, none⟩ u).heap[k]? = W.heap[k]? := by
  rw [Below.heap_setCell _ _ _ _ hk, Below.heap_setCell _ _ _ _ hk, Below.heap_setCell _ _ _ _ hk, Below.heap_setCell _ _ _ _ hk]
theorem TkS.setS {v0 v1 v2 v3 : Value} (h2 : W.heap[w.heap.size]? = some (.cells #[v0, v1, v2, v3] 24 (0, 0))) (h4 : W.heap[w.heap.size + 1]? = some (.cells #[.int .i64 0] 28 (0, 0))) (hv : v.At (fun k => w.heap.size + 3 ≤ k) W (.agg #[.int .u8 ((xK : Nat) : Int), .int .i64 xN, .string xz, .slice xa xl xc])) (hr : Rdr w (w.heap.size + 2) a' n' n' P bs W) :
    TkS w v xK xl xc xN xz xa a' n' P bs ((((W.setCell ⟨w.heap.size, 0, none⟩ (.int .u8 ((xK : Nat) : Int))).setCell ⟨w.heap.size, 1, none⟩ (.int .i64 xN)).setCell ⟨w.heap.size, 2, none⟩ (.string xz)).setCell ⟨w.heap.size, 3, none⟩ (.slice xa xl xc)) :=
  ⟨set4_heap h2 _ _ _ _, (set4_other _ _ _ _ (by omega)).trans h4, hv.kept (fun k hk _ => set4_other _ _ _ _ (by omega)) (fun _ hk _ => hk), (((hr.other (Nat.le_refl _) (by omega) 0 _).other (Nat.le_refl _) (by omega) 1 _).other (Nat.le_refl _) (by omega) 2 _).other (Nat.le_refl _) (by omega) 3 _⟩
theorem TkS.drew (h : TkS w v xK xl xc xN xz xa a' n' P bs W) : TkS w v xK xl xc xN xz xa a' n' P bs W.drew :=
  ⟨h.h2, h.h4, h.val.later ((Below.refl _ _).drew), h.rdr.later ((Below.refl _ _).drew)⟩
theorem TkS.again (h : TkS w v xK xl xc xN xz xa a' n' P bs W) : TkS w v xK xl xc xN xz xa a' n' P bs ((((W.setCell ⟨w.heap.size, 0, none⟩ (.int .u8 ((xK : Nat) : Int))).setCell ⟨w.heap.size, 1, none⟩ (.int .i64 xN)).setCell ⟨w.heap.size, 2, none⟩ (.string xz)).setCell ⟨w.heap.size, 3, none⟩ (.slice xa xl xc)) := TkS.setS h.h2 h.h4 h.val h.rdr
end

set_option maxRecDepth 100000 in
set_option maxHeartbeats 1000000 in
theorem vTake_any (a : Option Addr) (n c : Nat) (bs : List UInt8) (w : World) (h : Bytes w (.slice a n c) bs) (hn : n ≤ 1048576) : Calls Tryd.prog 21 #[.slice a n c] w fun e w' => TookVM w n bs e w' ∧ Below w.heap.size w w' := by
  have hmf : ∀ (fn : Fn) (first cap : Array Value) (w : World), (Instr.makeFunc fn first cap).run Tryd.prog w = .ok (.func fn first cap) w := fun _ _ _ _ => rfl
  obtain ⟨W1, hW1⟩ : ∃ W1, W1 = (w.alloc (.cells #[.int .u8 0, .int .i64 0, .string ⟨#[]⟩, .slice none 0 0] 24)).alloc (.cells #[.int .i64 0] 28) := ⟨_, rfl⟩
  obtain ⟨W2, hW2⟩ : ∃ W2, W2 = W1.alloc (.cells #[.slice a n c, .int .i64 0] 67) := ⟨_, rfl⟩
  have hb0 : Below w.heap.size w (w.alloc (.cells #[.int .u8 0, .int .i64 0, .string ⟨#[]⟩, .slice none 0 0] 24)) := (Below.refl _ w).alloc (Nat.le_refl _) _
  have hb1 : Below w.heap.size w W1 := by rw [hW1]; exact hb0.alloc hb0.size _
  have hb12 : Below W1.heap.size W1 W2 := by rw [hW2]; exact (Below.refl _ W1).alloc (Nat.le_refl _) _
  have hb2 : Below w.heap.size w W2 := hb1.trans (hb12.mono hb1.size)
  have hs1 : W1.heap.size = w.heap.size + 2 := by rw [hW1]; simp
  have hs2 : W2.heap.size = w.heap.size + 3 := by rw [hW2]; simp [hs1]
  have hr2 : W1.heap[w.heap.size]? = some (.cells #[.int .u8 0, .int .i64 0, .string ⟨#[]⟩, .slice none 0 0] 24 (0, 0)) := by
    rw [hW1, ((Below.refl _ _).alloc (Nat.le_refl _) _ : Below _ (w.alloc (.cells #[.int .u8 0, .int .i64 0, .string ⟨#[]⟩, .slice none 0 0] 24)) _).block _ (by simp)]
    exact heap_alloc_new w _
  have hr4 : W1.heap[w.heap.size + 1]? = some (.cells #[.int .i64 0] 28 (0, 0)) := by
    have h := heap_alloc_new (w.alloc (.cells #[.int .u8 0, .int .i64 0, .string ⟨#[]⟩, .slice none 0 0] 24)) (.cells #[.int .i64 0] 28)
    rw [hW1]
    simpa using h
  have hr5 : W2.heap[w.heap.size + 2]? = some (.cells #[.slice a n c, .int .i64 0] 67 (0, 0)) := by
    have h := heap_alloc_new W1 (.cells #[.slice a n c, .int .i64 0] 67)
    rw [← hW2, hs1] at h
    exact h
  have kr2 := (hb12.block _ (lt_rowV hr2)).trans hr2
  have kr4 := (hb12.block _ (lt_rowV hr4)).trans hr4
  have hR2 : Rdr w (w.heap.size + 2) a n c 0 bs W2 := ⟨hb2, by omega, hr5, h, hn⟩
  have HC := hide (rValue_any 6 1 rfl (by omega) w _ n c 0 a bs W2 hR2 (by omega))
  have HS1 := hide hs1
  have HS2 := hide hs2
  have HK2 := hide kr2
  have HK4 := hide kr4
  have HB2 := hide hb2
  have HW1 := hide hW1
  have HW2 := hide hW2
  clear h hn hb0 hb1 hb12 hb2 hs1 hs2 hr2 hr4 hr5 kr2 kr4 hR2 hW1 hW2
  go_enter_defers Tryd.func21, Tryd.ntmps21
  go_upto_region 2 with fail
  rw [← unhide HW1]
  clear HW1
  go_upto_region 3 with fail
  rw [← unhide HW2]
  rw [unhide HS1]
  clear HW2
  go_wp2_with fail
  refine (unhide HC).mono ?_
  rintro e W3 ⟨hu3, ⟨v, j, xK, xl, xc, n', xN, xz, xa, a', hvr, hvp, rfl, hAt, hn', hR3⟩ | ⟨hNo, rfl⟩⟩
  · have g2 := (hu3.block _ (lt_rowV (unhide HK2)) (by omega)).trans (unhide HK2)
    have g4 := (hu3.block _ (lt_rowV (unhide HK4)) (by omega)).trans (unhide HK4)
    have hT := TkS.setS (v := v) (xK := xK) (xN := xN) (xz := xz) (xa := xa) (xl := xl) (xc := xc) g2 g4 (hAt.wider fun k hk => by have := unhide HS2; omega) hR3
    obtain ⟨⟨c0, c1, c2, c3⟩, f0, f1, f2, f3⟩ := cells4 g2
    obtain ⟨W4, hW4⟩ : ∃ W4, W4 = ((((W3.setCell ⟨w.heap.size, 0, none⟩ (.int .u8 ((xK : Nat) : Int))).setCell ⟨w.heap.size, 1, none⟩ (.int .i64 xN)).setCell ⟨w.heap.size, 2, none⟩ (.string xz)).setCell ⟨w.heap.size, 3, none⟩ (.slice xa xl xc)) := ⟨_, rfl⟩
    rw [← hW4] at hT
    obtain ⟨⟨d0, d1, d2, d3⟩, e0, e1, e2, e3⟩ := cells4 hT.h2
    have e4 : W4.cell? ⟨w.heap.size + 1, 0, none⟩ = some (.int .i64 0) := cell_of_row _ _ 0 _ _ _ hT.h4
    have e4f : W4.frozen? ⟨w.heap.size + 1, 0, none⟩ = false := frozen_of_row _ _ _ _ _ hT.h4
    obtain ⟨r0, r1, -, -⟩ := hT.rdr.cells
    have HT := hide hT
    have HW4 := hide hW4
    have HVR := hide hvr
    have HNE := hide hn'
    clear hu3 hvr hvp hAt hn' hR3 g2 g4 hT hW4
    go_upto_region 4 with fail
    rw [← unhide HW4]
    clear HW4 c0 c1 c2 c3 f0 f1 f2 f3
    refine wp_region_noPanic ?_
    go_region
    all_goals (
      refine NoPanic.normal ?_
      have HT5 := hide (unhide HT).again.setE.drew
      go_wp2
      refine leaves_cons (f := 42) (args := #[.pointer (some ⟨w.heap.size + 1, 0, none⟩)]) (by simp) (by simp [go_sem]) ?_
      refine (catch_idle _ _).mono ?_
      rintro e u' w'' ⟨rfl, rfl, rfl⟩
      simp only [settle]
      refine ⟨_, results_ctc rfl _ _ _ _ _ _ _ _ (.int .i64 0) rfl (unhide HT5).h2 Tryd.underlying24 rfl (by kernel_rfl) rfl (load_errno (cell_of_row _ _ 0 _ _ _ (unhide HT5).h4)), .inl ⟨v, j, _, a', n', unhide HVR, (unhide HT5).val.wider (fun k hk => by omega), ?_, ?_⟩, (unhide HT5).rdr.below⟩
      · rw [← unhide HNE]; exact (unhide HT5).rdr.at
      · rw [← unhide HNE]; rfl)
  · have g2 := (hu3.block _ (lt_rowV (unhide HK2)) (by omega)).trans (unhide HK2)
    have g4 := (hu3.block _ (lt_rowV (unhide HK4)) (by omega)).trans (unhide HK4)
    have HB3 := hide (hu3.below (unhide HB2) (by omega))
    have HNV : Hid (NoVal bs 6) := NoV.noVal hNo
    have HG2 := hide g2
    have HG4 := hide g4
    clear hu3 hNo g2 g4
    go_wp2_with fail
    refine leaves_cons (f := 42) (args := #[.pointer (some ⟨w.heap.size + 1, 0, none⟩)]) (by simp) (by simp [go_sem]) ?_
    refine (catch_panicking _ 0 _ _ [] _ (cell_of_row _ _ 0 _ _ _ (unhide HG4)) (frozen_of_row _ _ _ _ _ (unhide HG4))).mono ?_
    rintro e u' w'' ⟨rfl, rfl, rfl⟩
    have h2' : (W3.setCell ⟨w.heap.size + 1, 0, none⟩ (.int .i64 30)).heap[w.heap.size]? = _ := (Below.heap_setCell _ _ _ _ (by show w.heap.size ≠ w.heap.size + 1; omega)).trans (unhide HG2)
    have h4' := heap_setCell_same _ _ 0 _ _ (.int .i64 30) (unhide HG4)
    simp only [settle]
    exact ⟨_, results_ctc rfl _ _ _ _ _ _ _ _ (.int .i64 30) rfl h2' Tryd.underlying24 rfl (by kernel_rfl) rfl (load_errno (cell_of_row _ _ 0 _ _ _ h4')), .inr ⟨unhide HNV, rfl⟩, (unhide HB3).setCell (p := ⟨w.heap.size + 1, 0, none⟩) (by show w.heap.size ≤ w.heap.size + 1; omega) _⟩

theorem VD.At.form {B : Nat → Prop} {W : World} {v : VD} {u : Value} (h : v.At B W u) : ∃ (K m c : Nat) (N : Int) (z : ByteArray) (a : Option Addr), u = .agg #[.int .u8 ((K : Nat) : Int), .int .i64 N, .string z, .slice a m c] := by
  rw [VD.at_iff] at h
  obtain ⟨a, c, rfl, _⟩ := h
  exact ⟨_, _, _, _, _, _, rfl⟩

set_option maxRecDepth 100000 in
set_option maxHeartbeats 1000000 in
theorem vParse_any (a : Option Addr) (n c : Nat) (bs : List UInt8) (w : World) (h : Bytes w (.slice a n c) bs) (hn : n ≤ 1048576) : Calls Tryd.prog 23 #[.slice a n c] w fun e w' => ParsedV w bs e w' ∧ Below w.heap.size w w' := by
  have hbl : bs.length = n := (bytes_len h).1
  have HBL := hide hbl
  obtain ⟨W1, hW1⟩ : ∃ W1, W1 = w.alloc (.cells #[.int .u8 0, .int .i64 0, .string ⟨#[]⟩, .slice none 0 0] 24) := ⟨_, rfl⟩
  have hb1 : Below w.heap.size w W1 := by rw [hW1]; exact (Below.refl _ w).alloc (Nat.le_refl _) _
  have hr1 : W1.heap[w.heap.size]? = some (.cells #[.int .u8 0, .int .i64 0, .string ⟨#[]⟩, .slice none 0 0] 24 (0, 0)) := by rw [hW1]; exact heap_alloc_new w _
  have HC := hide (vTake_any a n c bs W1 (h.kept fun k _ hk => hb1.block k hk) hn)
  have hs1 : w.heap.size < W1.heap.size := lt_rowV hr1
  have HW1 := hide hW1
  have HB1 := hide hb1
  have HR1 := hide hr1
  have HS1 := hide hs1
  have HN := hide hn
  clear h hn hbl hW1 hb1 hr1 hs1
  go_enter Tryd.func23, Tryd.ntmps23
  go_upto_region 1 with fail
  rw [← unhide HW1]
  clear HW1
  go_wp2_with fail
  refine (unhide HC).mono ?_
  rintro e W2 ⟨⟨v, j, u, ra, rc, hvr, hAt, hBy, rfl⟩ | ⟨hNo, rfl⟩, hb2⟩
  · obtain ⟨K, m, cc, N, z, xa, rfl⟩ := hAt.form
    obtain ⟨m', hm'⟩ : ∃ m', m' = n - j := ⟨_, rfl⟩
    rw [← hm'] at hBy ⊢
    obtain ⟨W3, hW3⟩ : ∃ W3, W3 = W2.alloc (.cells #[.int .u8 ((K : Nat) : Int), .int .i64 N, .string z, .slice xa m cc] 24) := ⟨_, rfl⟩
    have hb3 : Below W2.heap.size W2 W3 := by rw [hW3]; exact (Below.refl _ _).alloc (Nat.le_refl _) _
    have hr3 : W3.heap[W2.heap.size]? = some (.cells #[.int .u8 ((K : Nat) : Int), .int .i64 N, .string z, .slice xa m cc] 24 (0, 0)) := by rw [hW3]; exact heap_alloc_new _ _
    have g2 := (hb2.block _ (lt_rowV (unhide HR1))).trans (unhide HR1)
    have g3 := (hb3.block _ (lt_rowV g2)).trans g2
    obtain ⟨⟨c0, c1, c2, c3⟩, f0, f1, f2, f3⟩ := cells4 g3
    obtain ⟨⟨d0, d1, d2, d3⟩, -⟩ := cells4 hr3
    have hb02 : Below w.heap.size w W2 := (unhide HB1).trans (hb2.mono (unhide HB1).size)
    have HB3 : Hid (Below w.heap.size w W3) := hb02.trans (hb3.mono hb02.size)
    have HAT := hide (hAt.later hb3)
    have HVR := hide hvr
    have HG3 := hide g3
    have HW3 := hide hW3
    have HME := hide hm'
    have HJL := hide hvr.le
    clear hvr hAt hBy hb2 hW3 hb3 hr3 g2 g3 hb02 hm'
    go_upto_region 2 with fail
    rw [← unhide HW3]
    clear HW3
    by_cases h0 : m' = 0
    · have h0i : ¬ ((m' : Nat) : Int) > 0 := by omega
      have HJ : Hid (j = bs.length) := by show _ = _; have := unhide HME; have := unhide HBL; have := unhide HJL; omega
      clear h0
      go_wp2
      refine bodyPost_ret (results_ctv rfl _ _ _ _ _ _ _ rfl (set4_heap (unhide HG3) _ _ _ _) Tryd.underlying24 rfl (by kernel_rfl)) rfl ?_
      refine ⟨.inl ⟨v, _, by rw [← unhide HJ]; exact unhide HVR, ?_, rfl⟩, set4_below (unhide HB3) (Nat.le_refl _) _ _ _ _⟩
      exact (unhide HAT).kept (fun k hk _ => set4_other _ _ _ _ (by have := unhide HS1; omega)) (fun k hk _ => by have := unhide HS1; omega)
    · have h0i : ((m' : Nat) : Int) > 0 := by omega
      have HJ : Hid (j ≠ bs.length) := by show _ ≠ _; have := unhide HME; have := unhide HBL; omega
      clear h0
      go_wp2
      refine bodyPost_ret (results_ctv rfl _ _ _ _ _ _ _ rfl (set4_heap (unhide HG3) _ _ _ _) Tryd.underlying24 rfl (by kernel_rfl)) rfl ?_
      refine ⟨.inr ⟨fun v' hv' => ?_, rfl⟩, set4_below (unhide HB3) (Nat.le_refl _) _ _ _ _⟩
      exact unhide HJ ((unhide HVR).same hv').2
  · obtain ⟨W3, hW3⟩ : ∃ W3, W3 = W2.alloc (.cells #[.int .u8 0, .int .i64 0, .string ⟨#[]⟩, .slice none 0 0] 24) := ⟨_, rfl⟩
    have hb3 : Below W2.heap.size W2 W3 := by rw [hW3]; exact (Below.refl _ _).alloc (Nat.le_refl _) _
    have g2 := (hb2.block _ (lt_rowV (unhide HR1))).trans (unhide HR1)
    have g3 := (hb3.block _ (lt_rowV g2)).trans g2
    obtain ⟨⟨c0, c1, c2, c3⟩, f0, f1, f2, f3⟩ := cells4 g3
    have hb02 : Below w.heap.size w W2 := (unhide HB1).trans (hb2.mono (unhide HB1).size)
    have HB3 : Hid (Below w.heap.size w W3) := hb02.trans (hb3.mono hb02.size)
    have HG3 := hide g3
    have HW3 := hide hW3
    have HNO := hide hNo
    rw [zeroV]
    clear hNo hb2 hW3 hb3 g2 g3 hb02
    go_upto_region 2 with fail
    rw [← unhide HW3]
    clear HW3
    go_wp2
    refine bodyPost_ret (results_ctv rfl _ _ _ _ _ _ _ rfl (set4_heap (unhide HG3) _ _ _ _) Tryd.underlying24 rfl (by kernel_rfl)) rfl ?_
    exact ⟨.inr ⟨fun v' hv' => unhide HNO v' _ hv', rfl⟩, set4_below (unhide HB3) (Nat.le_refl _) _ _ _ _⟩
end Go.Proofs.YtobgmbfoofkdeaaDoor

namespace Go.Proofs.YtobgmbfoofkdeaaDoor
open Go.RowKit

set_option maxRecDepth 100000 in
set_option maxHeartbeats 4000000 in
theorem eqFunc_any (B B2 : Nat → Prop) (g n n2 c c2 : Nat) (a a2 : Option Addr) (l l2 : List VD) (w : World) (hn : n = l.length) (hn2 : n2 = l2.length) (hE : ∀ j (h : j < l.length), VD.Elem B w (l[j]'h) a j) (hE2 : ∀ j (h : j < l2.length), VD.Elem B2 w (l2[j]'h) a2 j) (hn6 : n ≤ 1000000)
    (hC : ∀ W, Below w.heap.size w W → ∀ j (h : j < l.length) (h2 : j < l2.length) u1 u2, (l[j]'h).At B W u1 → (l2[j]'h2).At B2 W u2 → Calls Tryd.prog 53 #[u1, u2, .pointer (some ⟨g, 0, none⟩)] W fun e w' => e = .returned (.bool ((l[j]'h).same (l2[j]'h2))) ∧ Below W.heap.size W w') :
    Calls Tryd.prog 52 #[.slice a n c, .slice a2 n2 c2, .func (.func 53) #[] #[.pointer (some ⟨g, 0, none⟩)]] w fun e w' => e = .returned (.bool (VD.sameL l l2)) ∧ Below w.heap.size w w' := by
  have HN := hide hn
  have HN2 := hide hn2
  have HE := hide hE
  have HE2 := hide hE2
  have HC0 := hide hC
  have HB0 : Hid (Below w.heap.size w w) := Below.refl _ _
  clear hn hn2 hE hE2 hC
  by_cases hl : n = n2
  case neg =>
    have gl : (((n : Nat) : Int) == ((n2 : Nat) : Int)) = false := by rw [beq_eq_false_iff_ne]; omega
    have gl2 : (((n : Nat) : Int) != ((n2 : Nat) : Int)) = true := by rw [bne, gl]; rfl
    have gl3 : (n == n2) = false := beq_eq_false_iff_ne.2 hl
    have gl4 : (n != n2) = true := by rw [bne, gl3]; rfl
    have HD : Hid (VD.sameL l l2 = false) := VD.sameL_length (by rw [← unhide HN, ← unhide HN2]; exact hl)
    clear hl
    go_enter Tryd.func52, Tryd.ntmps52
    go_wp2
    go_ret
    exact ⟨ret_bool (unhide HD).symm, unhide HB0⟩
  have gl : (((n : Nat) : Int) == ((n2 : Nat) : Int)) = true := by rw [beq_iff_eq]; omega
  have gl2 : (((n : Nat) : Int) != ((n2 : Nat) : Int)) = false := by rw [bne, gl]; rfl
  have gl3 : (n == n2) = true := beq_iff_eq.2 hl
  have gl4 : (n != n2) = false := by rw [bne, gl3]; rfl
  have HLL := hide hl
  clear hl
  go_enter Tryd.func52, Tryd.ntmps52
  go_wp2
  clear gl gl2 gl3 gl4
  go_loopw [17] (fun k W => ∃ j : Nat, j ≤ n ∧ k = .int .i64 ((j : Nat) : Int) ∧ VD.sameL (l.take j) (l2.take j) = true ∧ Below w.heap.size w W) (fun k _ => n - (intOf k).toNat)
  case atStart => exact ⟨0, by omega, rfl, rfl, unhide HB0⟩
  case round =>
    obtain ⟨j, hj, rfl, hkt, hb⟩ := hrel
    have HB := hide hb
    have HKT := hide hkt
    have hk : ∀ {p : Addr} {x : Value}, w.cell? p = some x → wr.cell? p = some x := fun hx => (hb.cell (World.block_lt_of_cell? _ _ hx)).trans hx
    by_cases hlt : j < n
    · have hji : ((j : Nat) : Int) < ((n : Nat) : Int) := by omega
      have hjl : j < l.length := by have := unhide HN; omega
      have hjl2 : j < l2.length := by have := unhide HN2; have := unhide HLL; omega
      have hjn2 : j < n2 := by have := unhide HLL; omega
      have hji2 : ((j : Nat) : Int) < ((n2 : Nat) : Int) := by omega
      obtain ⟨b, o, eK, el, ec, eN, ez, ea, rfl, _, x0, x1, x2, x3, he⟩ := (unhide HE j hjl).out
      obtain ⟨b', o', eK', el', ec', eN', ez', ea', rfl, _, y0, y1, y2, y3, he'⟩ := (unhide HE2 j hjl2).out
      have p0 := hk x0
      have p1 := hk x1
      have p2 := hk x2
      have p3 := hk x3
      obtain ⟨W4, hW4⟩ : ∃ W4, W4 = wr.alloc (.cells #[.int .u8 ((eK : Nat) : Int), .int .i64 eN, .string ez, .slice ea el ec] 24) := ⟨_, rfl⟩
      obtain ⟨W5, hW5⟩ : ∃ W5, W5 = W4.alloc (.cells #[.int .u8 ((eK' : Nat) : Int), .int .i64 eN', .string ez', .slice ea' el' ec'] 24) := ⟨_, rfl⟩
      have hb4 : Below wr.heap.size wr W4 := by rw [hW4]; exact (Below.refl _ _).alloc (Nat.le_refl _) _
      have hb45 : Below W4.heap.size W4 W5 := by rw [hW5]; exact (Below.refl _ _).alloc (Nat.le_refl _) _
      have hr4 : W4.heap[wr.heap.size]? = some (.cells #[.int .u8 ((eK : Nat) : Int), .int .i64 eN, .string ez, .slice ea el ec] 24 (0, 0)) := by rw [hW4]; exact heap_alloc_new wr _
      have hr5 : W5.heap[W4.heap.size]? = some (.cells #[.int .u8 ((eK' : Nat) : Int), .int .i64 eN', .string ez', .slice ea' el' ec'] 24 (0, 0)) := by rw [hW5]; exact heap_alloc_new W4 _
      have hb04 : Below w.heap.size w W4 := hb.trans (hb4.mono hb.size)
      have hb05 : Below w.heap.size w W5 := hb04.trans (hb45.mono hb04.size)
      have hk4 : ∀ {p : Addr} {x : Value}, w.cell? p = some x → W4.cell? p = some x := fun hx => (hb04.cell (World.block_lt_of_cell? _ _ hx)).trans hx
      have q0 := hk4 y0
      have q1 := hk4 y1
      have q2 := hk4 y2
      have q3 := hk4 y3
      have hr45 := (hb45.block _ (lt_rowV hr4)).trans hr4
      obtain ⟨⟨i0, i1, i2, i3⟩, -⟩ := cells4 hr45
      obtain ⟨⟨j0, j1, j2, j3⟩, -⟩ := cells4 hr5
      have HC : Hid (Calls Tryd.prog 53 #[.agg #[.int .u8 ((eK : Nat) : Int), .int .i64 eN, .string ez, .slice ea el ec], .agg #[.int .u8 ((eK' : Nat) : Int), .int .i64 eN', .string ez', .slice ea' el' ec'], .pointer (some ⟨g, 0, none⟩)] W5 fun e w' => e = .returned (.bool ((l[j]).same (l2[j]))) ∧ Below W5.heap.size W5 w') := unhide HC0 W5 hb05 j hjl hjl2 _ _ (he.later hb05) (he'.later hb05)
      have HTS := hide (VD.same_take hjl hjl2)
      have HFL := hide (VD.same_false (l := l) (q := l2) hjl hjl2)
      generalize (l[j]).same (l2[j]) = p at *
      have HW4 := hide hW4
      have HW5 := hide hW5
      have HB5 := hide hb05
      clear he he' hk hk4 x0 x1 x2 x3 y0 y1 y2 y3 hkt hb hb4 hb45 hr4 hr5 hr45 hb04 hb05 hW4 hW5
      go_upto_region 6 with fail
      rw [← unhide HW4]
      clear HW4 p0 p1 p2 p3
      go_upto_region 7 with fail
      rw [← unhide HW5]
      clear HW5 q0 q1 q2 q3
      go_wp2_with fail
      refine (unhide HC).mono ?_
      rintro e W6 ⟨rfl, hb6⟩
      have HB6 := hide ((unhide HB5).trans (hb6.mono (unhide HB5).size))
      clear hb6 i0 i1 i2 i3 j0 j1 j2 j3
      cases p with
      | true =>
        go_wp2_with fail
        exact ⟨⟨j + 1, by omega, by go_num, by rw [unhide HTS, unhide HKT]; rfl, unhide HB6⟩, by simp [intOf]; omega⟩
      | false =>
        have HD : Hid (VD.sameL l l2 = false) := unhide HFL rfl
        go_wp2_with fail
        go_ret
        exact ⟨ret_bool (unhide HD).symm, unhide HB6⟩
    · have e : j = n := by omega
      have hji : ¬ ((j : Nat) : Int) < ((n : Nat) : Int) := by omega
      have HD : Hid (VD.sameL l l2 = true) := by
        show _ = _
        rw [← unhide HKT, List.take_of_length_le (by have := unhide HN; omega), List.take_of_length_le (by have := unhide HN2; have := unhide HLL; omega)]
      clear e hk hkt hb
      go_wp2
      go_ret
      exact ⟨ret_bool (unhide HD).symm, unhide HB⟩
end Go.Proofs.YtobgmbfoofkdeaaDoor
