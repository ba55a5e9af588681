/- FragTake, ValRefA, ValRow, WireRef, WireRefT, WireRefS: our own definitions and contracts; no statement of the seat is proved here. -/
import Derived.Test.YtdlbpbglidhlfaaGreatDoorBase04
import Derived.Test.YtdlbpbglidhlfaaGreatDoorBase01
import Derived.OwnWalkIn
import Derived.Test.YtdlbpbglidhlfaaGreatDoorBase00
import Derived.Test.YtdlbpbglidhlfaaGreatDoorBase03
namespace Go.Proofs.YtdlbpbglidhlfaaGreatDoor
open Go.RowKit

/-- Blocks from b0 on of which nothing is frozen. -/
def BNew (b0 : Nat) (W : World) (k : Nat) : Prop := b0 ≤ k ∧ NFr W k
theorem BNew.but {b0 g : Nat} {W W' : World} (hu : ButF g W W') (hg : g < b0) {k : Nat} (h : BNew b0 W k) (hk : k < W.heap.size) : BNew b0 W' k := ⟨h.1, h.2.keep (hu.block k hk (by have := h.1; omega))⟩
theorem ItemsO.but {b0 g : Nat} {W W' : World} {r : Value} {q : List FI} (h : ItemsO b0 (BNew b0) W r q) (hu : ButF g W W') (hg : g < b0) : ItemsO b0 (BNew b0) W' r q :=
  h.kept (fun k hk => hu.block k (h.lt hk) (by have := h.new k hk; omega)) (fun k hk hlt => hu.block k hlt (by have := hk.1; omega)) (fun k hk hlt => hk.but hu hg hlt)

/-- Behind the reading of one item: what append does. -/
theorem items_next {w0 w W W3 : World} {g q1 rc : Nat} {ra : Option Addr} {q : List FI} {x : FI} {st : Option (List UInt8)} {z zo : ByteArray} {K pn pc : Nat} {pa : Option Addr} {wd qt : Int} (hq : q.length = q1) (h : ItemsO w.heap.size (BNew w.heap.size) W (.slice ra q1 rc) q) (hg : g < w.heap.size) (hu : ButF g w W) (hu3 : ButF g W W3) (hR : RdF w0 g st W3) (hw : w0.heap.size ≤ w.heap.size)
    (hx : x.At (fun k => W.heap.size ≤ k ∧ NFr W3 k) W3 (.agg #[.string z, .int .u8 ((K : Nat) : Int), .slice pa pn pc, .string zo, .int .i64 wd, .int .i64 qt])) (hl : q1 ≤ 1000000) (ty : TypeId) :
    ∃ ra' rc' W7, (Builtin.append_ #[25, 25] ty #[.slice ra q1 rc, .slice (some ⟨W3.heap.size, 0, none⟩) 1 1]).run Tryz.prog (W3.alloc (.cells #[.string z, .int .u8 ((K : Nat) : Int), .slice pa pn pc, .string zo, .int .i64 wd, .int .i64 qt] 62)) = .ok (.slice ra' (q1 + 1) rc') W7 ∧
      ItemsO w.heap.size (BNew w.heap.size) W7 (.slice ra' (q1 + 1) rc') (q ++ [x]) ∧ ButF g w W7 ∧ RdF w0 g st W7 := by
  obtain ⟨W4, hW4⟩ : ∃ W4, W4 = W3.alloc (.cells #[.string z, .int .u8 ((K : Nat) : Int), .slice pa pn pc, .string zo, .int .i64 wd, .int .i64 qt] 62) := ⟨_, rfl⟩
  have hb4 : Below W3.heap.size W3 W4 := by rw [hW4]; exact (Below.refl _ _).alloc (Nat.le_refl _) _
  have hr4 : W4.heap[W3.heap.size]? = some (.cells #[.string z, .int .u8 ((K : Nat) : Int), .slice pa pn pc, .string zo, .int .i64 wd, .int .i64 qt] 62 (0, 0)) := by rw [hW4]; exact heap_alloc_new _ _
  have hu34 : ButF g W W4 := hu3.trans (ButF.of hb4)
  have hu04 : ButF g w W4 := hu.trans hu34
  have h4 := h.but hu34 hg
  obtain ⟨i0, i1, i2, i3, i4, i5⟩ := cells6 hr4
  have hp := hx.parts
  have hS : ItemsAt (fun k => BNew w.heap.size W4 k ∧ (Value.slice ra q1 rc).ownBlock ≠ some k ∨ k = W3.heap.size) W4 (some ⟨W3.heap.size, 0, none⟩) [x] := fun j hj => by
    obtain rfl : j = 0 := by simp at hj; omega
    show FI.Elem _ W4 x _ 0
    obtain ⟨rfl, rfl, rfl, rfl, rfl, rfl, q1, q2, q3, q4⟩ := hp
    exact ⟨_, 0, pa, pc, rfl, .inr rfl, ⟨i0, i1, i2, i3, i4, i5⟩, q1, q2, q3, q4.kept (fun k _ hk => hb4.block k hk) (fun k hk hlt => .inl ⟨⟨Nat.le_trans hu.size hk.1, hk.2.keep (hb4.block k hlt)⟩, fun e => by have := h.lt e; have := hk.1; omega⟩)⟩
  have hS2 : ItemsAt (fun k => BNew w.heap.size W4 k ∧ (Value.slice ra q1 rc).ownBlock ≠ some k) W4 (some ⟨W3.heap.size, 0, none⟩) [x] := hS.kept (fun _ _ _ => rfl) (fun k hk _ => by
    rcases hk with hk | rfl
    · exact hk
    · exact ⟨⟨Nat.le_trans hu.size hu3.size, fun i => frozen_of_row _ _ _ _ _ hr4⟩, fun e => by have := h.lt e; have := hu3.size; omega⟩)
  obtain ⟨r', W7, hrun, hv, hg7, hn⟩ := h4.append hu04.size hS2 (fun W' hW' k hk hne hlt => ⟨hk.1, hk.2.keep (hW'.block k hlt (fun e => hne e.symm))⟩) (Nat.le_refl _) (fun e => by cases e) (by simp only [List.length_singleton]; omega) ty
  obtain ⟨ra', rc', rfl, _⟩ := hv.form
  rw [List.length_append, List.length_singleton, hq] at hv hrun
  rw [hW4] at hrun
  have hu7 : ButF g w W7 := hu04.grown hg7 fun k hk => h4.new k hk
  refine ⟨ra', rc', W7, hrun, hv, hu7, hR.kept (hu7.below ?_ hR.new) ?_⟩
  · exact ⟨(hu.trans hu3).os ▸ hR.below.os ▸ rfl, (hu.trans hu3).tape ▸ hR.below.tape ▸ rfl, (hu.trans hu3).output ▸ hR.below.output ▸ rfl, hw, fun k hk => by
      rw [← hR.below.block k hk, (hu.trans hu3).block k (by omega) (by have := hR.new; omega)]⟩
  · rw [hg7.block g (by have := hR.lt; have := hb4.size; omega) (fun e => by have := h4.new g e.symm; omega)]
    exact hb4.block g hR.lt

set_option maxRecDepth 100000 in
set_option maxHeartbeats 1000000 in
theorem takeItems_any (w0 : World) (g : Nat) (st : Option (List UInt8)) (w : World) (h : RdF w0 g st w) : Calls Tryz.prog 84 #[.pointer (some ⟨g, 0, none⟩), .int .i64 40, .func (.func 85) #[.pointer (some ⟨g, 0, none⟩)] #[]] w fun e W => ∃ (ra : Option Addr) (rn rc : Nat), e = .returned (.slice ra rn rc) ∧ ItemsO w.heap.size (BNew w.heap.size) W (.slice ra rn rc) (fragS nameB st).1 ∧ RdF w0 g (fragS nameB st).2 W ∧ ButF g w W := by
  have HN := hide (fNumber_any w0 g 40 st w h)
  have hgw := h.lt
  have HW := hide h.below.size
  clear h
  unfold fragS
  obtain ⟨st1, hst1⟩ : ∃ s, s = (numS 40 st).2 := ⟨_, rfl⟩
  obtain ⟨N0, hN0⟩ : ∃ s, s = (numS 40 st).1 := ⟨_, rfl⟩
  dsimp only
  rw [← hst1, ← hN0] at HN ⊢
  clear hst1 hN0
  go_enter Tryz.func84, Tryz.ntmps84
  go_wp2_with fail
  refine (unhide HN).mono ?_
  rintro e w2 ⟨N, rfl, rfl, hNm, hR2, hU2⟩
  have HR2 := hide hR2
  have HU2 := hide hU2
  clear hR2 hU2 HN
  go_wp2_with fail
  go_loopw [7, 11] (fun v k W => ∃ (j : Nat) (ra : Option Addr) (rc : Nat), j ≤ N ∧ k = .int .i64 ((j : Nat) : Int) ∧ v = .slice ra j rc ∧ ItemsO w.heap.size (BNew w.heap.size) W (.slice ra j rc) (listS (itemS nameB) j st1).1 ∧ RdF w0 g (listS (itemS nameB) j st1).2 W ∧ ButF g w W) (fun _ k _ => N - (intOf k).toNat)
  case atStart => exact ⟨0, none, 0, by omega, rfl, rfl, ItemsO.nil _ _ _, unhide HR2, unhide HU2⟩
  case round =>
    obtain ⟨j, ra, rc, hj, rfl, rfl, hS, hR, hU⟩ := hrel
    have HS := hide hS
    have HU := hide hU
    by_cases hlt : j < N
    · have hji : ((j : Nat) : Int) < ((N : Nat) : Int) := by omega
      have HC := hide (fItem_any w0 g _ _ hR)
      have HLL := hide (listS_len (itemS nameB) j st1)
      clear hS hR hU
      go_wp2_with fail
      refine (unhide HC).mono ?_
      rintro e w3 ⟨z, K, pa, pn, pc, zo, wd, qt, rfl, hx, hR3, hU3⟩
      obtain ⟨ra', rc', W7, hrun, hS7, hU7, hR7⟩ := items_next (unhide HLL) (unhide HS) hgw (unhide HU) hU3 hR3 (unhide HW) hx (by omega) 25
      have HRUN := hide hrun
      have HS7 := hide hS7
      have HU7 := hide hU7
      have HR7 := hide hR7
      clear hx hR3 hU3 hrun hS7 hU7 hR7
      go_wp2_with (at_builtin; refine Lib.wpList_append_run _ rfl _ _ 25 25 rfl _ _ rfl rfl _ _ (unhide HRUN) ?_)
      go_wp2_with fail
      exact ⟨⟨j + 1, ra', rc', by omega, by go_num, rfl, unhide HS7, unhide HR7, unhide HU7⟩, by simp [intOf]; omega⟩
    · have e : j = N := by omega
      have hji : ¬ ((j : Nat) : Int) < ((N : Nat) : Int) := by omega
      have HR := hide hR
      have HE := hide e
      clear hS hR hU e
      go_wp2_with fail
      go_ret
      refine ⟨ra, j, rc, rfl, ?_, ?_, unhide HU⟩
      · rw [← unhide HE]; exact unhide HS
      · rw [← unhide HE]; exact unhide HR

/-- What Take tells, in memory. -/
def TakeFM (w : World) (n : Nat) (bs : List UInt8) (e : Ending) (W : World) : Prop :=
  ∃ (l : List FI) (a : Option Addr) (ln c : Nat) (ra : Option Addr) (rn rc : Nat) (er : Int), e = .returned (.tuple #[.slice a ln c, .slice ra rn rc, .int .i64 er]) ∧ FragAt (fun k => w.heap.size ≤ k) W l (.slice a ln c) ∧ Below w.heap.size w W ∧
    ((er = 0 ∧ ∃ j, j ≤ n ∧ rn + j = n ∧ FReads bs l j ∧ Bytes W (.slice ra rn rc) (bs.drop j)) ∨ (er = 30 ∧ NoFrag bs ∧ l = [] ∧ ln = 0 ∧ rn = 0))

/-- As TakeFM; what is behind reads so in any world ahead in which what came in does; where there is none, it is nil. -/
def TakeFN (b w : World) (n : Nat) (bs : List UInt8) (e : Ending) (W : World) : Prop :=
  ∃ (l : List FI) (a : Option Addr) (ln c : Nat) (ra : Option Addr) (rn rc : Nat) (er : Int), e = .returned (.tuple #[.slice a ln c, .slice ra rn rc, .int .i64 er]) ∧ FragAt (fun k => w.heap.size ≤ k) W l (.slice a ln c) ∧ Below w.heap.size w W ∧
    ((er = 0 ∧ ∃ j, j ≤ n ∧ rn + j = n ∧ FReads bs l j ∧ Bytes b (.slice ra rn rc) (bs.drop j)) ∨ (er = 30 ∧ NoFrag bs ∧ l = [] ∧ ln = 0 ∧ rn = 0 ∧ ra = none ∧ rc = 0))

set_option maxRecDepth 100000 in
set_option maxHeartbeats 1000000 in
theorem fTakeN_any (a : Option Addr) (n c : Nat) (bs : List UInt8) (b w : World) (hbw0 : Below b.heap.size b w) (h : Bytes b (.slice a n c) bs) (hl : n ≤ 1048576) : Calls Tryz.prog 60 #[.slice a n c] w (TakeFN b w n bs) := by
  obtain ⟨hbl, hnc⟩ := bytes_len h
  obtain ⟨W1, hW1⟩ : ∃ W1, W1 = w.alloc (.cells #[.slice a n c, .bool false] 113) := ⟨_, rfl⟩
  have hb1 : Below w.heap.size w W1 := by rw [hW1]; exact (Below.refl _ w).alloc (Nat.le_refl _) _
  have hr1 : W1.heap[w.heap.size]? = some (.cells #[.slice a n c, .bool false] 113 (0, 0)) := by rw [hW1]; exact heap_alloc_new w _
  have HC := hide (takeItems_any b w.heap.size (some bs) W1 ⟨hbw0.trans (hb1.mono hbw0.size), hbw0.size, a, n, c, bs, false, hr1, h, hl, .inl ⟨rfl, rfl⟩⟩)
  have HB1 := hide hb1
  have HW1 := hide hW1
  have HH := hide h
  have HBL := hide hbl
  clear h hb1 hr1 hW1 hbl hnc hl hbw0
  obtain ⟨fs, hfs⟩ : ∃ fs, fs = fragS nameB (some bs) := ⟨_, rfl⟩
  rw [← hfs] at HC
  have HFS := hide hfs
  clear hfs
  go_enter Tryz.func60, Tryz.ntmps60
  go_upto_region 2 with fail
  rw [← unhide HW1]
  clear HW1
  go_wp2_with fail
  refine (unhide HC).mono ?_
  rintro e W2 ⟨ra, rn, rc, rfl, hI, hR, hU⟩
  have hbw : Below w.heap.size w W2 := hU.below (unhide HB1) (Nat.le_refl _)
  obtain ⟨a1, n1, c1, bs1, brk, h3, h4, h5, h6⟩ := hR.is
  obtain ⟨k0, k1, -, -⟩ := cells2F h3
  have HFR : Hid (FragAt (fun k => w.heap.size ≤ k) W2 fs.1 (.slice ra rn rc)) := hI.at (fun k hk => by have := hk.1; have := (unhide HB1).size; omega) (fun k hk _ => by have := hI.new k hk; have := (unhide HB1).size; omega)
  have HB2 := hide hbw
  have HB4 := hide h4
  have H6 := hide h6
  clear hI hR hU hbw h3 h4 h5 h6
  cases brk with
  | true =>
    have HNO : Hid (NoFrag bs) := by
      rcases unhide H6 with ⟨h, _⟩ | ⟨_, h, _⟩
      · cases h
      · exact fragS_no (l := fs.1) (by rw [← unhide HFS, ← h])
    go_wp2_with fail
    go_ret3
    exact ⟨[], none, 0, 0, none, 0, 0, 30, rfl, FragAt.nil _ _, unhide HB2, .inr ⟨rfl, unhide HNO, rfl, rfl, rfl, rfl, rfl⟩⟩
  | false =>
    have HOK : Hid (FReads bs fs.1 (bytesF fs.1).length ∧ bs1 = bs.drop (bytesF fs.1).length) := by
      rcases unhide H6 with ⟨_, h⟩ | ⟨h, _⟩
      · exact fragS_reads (by rw [← unhide HFS, ← h])
      · cases h
    go_upto_region 5 with fail
    go_quiet (fail)
    go_wp2_with fail
    go_ret3
    have hd : ∀ m, Below W2.heap.size W2 (W2.drewN m) := fun m => below_drewN W2 m
    obtain ⟨hf, hb1⟩ := unhide HOK
    have hle := hf.le
    refine ⟨fs.1, ra, rn, rc, a1, n1, c1, 0, rfl, (unhide HFR).later (hd _), (unhide HB2).trans ((hd _).mono (unhide HB2).size), .inl ⟨rfl, _, by have := unhide HBL; omega, ?_, hf, ?_⟩⟩
    · obtain ⟨h1, _⟩ := bytes_len (unhide HB4)
      rw [hb1, List.length_drop] at h1
      have := unhide HBL
      omega
    · rw [← hb1]
      exact unhide HB4

theorem fTake_any (a : Option Addr) (n c : Nat) (bs : List UInt8) (w : World) (h : Bytes w (.slice a n c) bs) (hl : n ≤ 1048576) : Calls Tryz.prog 60 #[.slice a n c] w (TakeFM w n bs) := by
  refine (fTakeN_any a n c bs w w (Below.refl _ _) h hl).mono ?_
  rintro e W ⟨l, fa, ln, fc, ra, rn, rc, er, he, hF, hb, ⟨h1, j, h2, h3, h4, h5⟩ | ⟨h1, h2, h3, h4, h5, _⟩⟩
  · exact ⟨l, fa, ln, fc, ra, rn, rc, er, he, hF, hb, .inl ⟨h1, j, h2, h3, h4, h5.kept fun k _ hk => hb.block k hk⟩⟩
  · exact ⟨l, fa, ln, fc, ra, rn, rc, er, he, hF, hb, .inr ⟨h1, h2, h3, h4, h5⟩⟩

/-- What Parse tells, in memory. -/
def ParseFM (w : World) (bs : List UInt8) (e : Ending) (W : World) : Prop :=
  ∃ (l : List FI) (a : Option Addr) (ln c : Nat) (er : Int), e = .returned (.tuple #[.slice a ln c, .int .i64 er]) ∧ FragAt (fun k => w.heap.size ≤ k) W l (.slice a ln c) ∧ Below w.heap.size w W ∧
    ((er = 0 ∧ FReads bs l bs.length) ∨ (er = 30 ∧ (∀ m, ¬ FReads bs m bs.length) ∧ l = [] ∧ ln = 0))


end Go.Proofs.YtdlbpbglidhlfaaGreatDoor

namespace Go.Proofs.YtdlbpbglidhlfaaGreatDoor
open Go.RowKit

set_option maxRecDepth 100000 in
set_option maxHeartbeats 2000000 in
theorem vRefParts_any (v : VD) : ∀ (B : Nat → Prop) (u : Value) (w : World), v.At B w u → v.parts ≤ 1000000 → Calls Tryz.prog 42 #[u] w fun e w' => e = .returned (.int .i64 ((v.parts : Nat) : Int)) ∧ Below w.heap.size w w' := by
  induction v using VD.induct with
  | h v ih =>
    intro B u w hA hm
    obtain ⟨a, c, rfl, hlc, hbox⟩ := hA.box
    have HBX := hide (hbox 24)
    have HB1 : Hid (Below w.heap.size w (w.alloc (.cells #[.int .u8 ((v.k : Nat) : Int), .int .i64 v.n, .string ⟨v.s.toArray⟩, .slice a v.l.length c] 24))) := (Below.refl _ w).alloc (Nat.le_refl _) _
    have HM := hide hm
    have HPM := hide v.parts_mk
    have HIH := hide ih
    clear hA hbox hm ih
    obtain ⟨n, hn⟩ : ∃ n, n = v.l.length := ⟨_, rfl⟩
    have HN := hide hn
    have hn6 : n ≤ 1000000 := by have h1 := VD.partsL_length v.l; have h2 := v.parts_mk; have := unhide HM; omega
    rw [← hn] at hlc ⊢ HBX HB1
    clear hn
    generalize (⟨v.s.toArray⟩ : ByteArray) = z at *
    go_enter Tryz.func42, Tryz.ntmps42
    go_wp2
    generalize hw1 : World.alloc w _ = w1 at HBX HB1 ⊢
    clear hw1
    go_loopw [3, 4] (fun s k W => ∃ j : Nat, j ≤ n ∧ k = .int .i64 ((j : Nat) : Int) ∧ s = .int .i64 ((VD.partsL (v.l.take j) + 1 : Nat) : Int) ∧ Below w1.heap.size w1 W) (fun _ k _ => n - (intOf k).toNat)
    case atStart => exact ⟨0, by omega, rfl, rfl, Below.refl _ _⟩
    case round =>
      obtain ⟨j, hj, rfl, rfl, hb⟩ := hrel
      have HB := hide hb
      have hbx := (unhide HBX).later hb
      have c3 := hbx.c3
      rw [← unhide HN] at c3
      have HEL := hide hbx.el
      clear hb hbx
      by_cases hlt : j < n
      · have hji : ((j : Nat) : Int) < ((n : Nat) : Int) := by omega
        have hjl : j < v.l.length := by have := unhide HN; omega
        obtain ⟨b, o, e0, e1, e2, e3, rfl, _, d0, d1, d2, d3, he⟩ := unhide HEL j hjl
        have HE := hide he
        have hmem : v.l[j] ∈ v.l := List.getElem_mem hjl
        have hpl := VD.parts_lt hmem
        have HT : Hid (VD.partsL (v.l.take (j + 1)) = VD.partsL (v.l.take j) + (v.l[j]).parts) := by
          show _ = _
          rw [List.take_succ_eq_append_getElem hjl, VD.partsL_append]
          simp [VD.partsL]
        have hle := VD.partsL_take v.l (j + 1)
        have HC : Hid (Calls Tryz.prog 42 #[.agg #[e0, e1, e2, e3]] wr fun e w' => e = .returned (.int .i64 (((v.l[j]).parts : Nat) : Int)) ∧ Below wr.heap.size wr w') := unhide HIH _ hmem B _ wr he (by have := unhide HM; omega)
        obtain ⟨S, hS⟩ : ∃ S, S = VD.partsL (v.l.take j) + 1 := ⟨_, rfl⟩
        have HSD := hide hS
        obtain ⟨p, hp⟩ : ∃ p, p = (v.l[j]).parts := ⟨_, rfl⟩
        have hb1 : ((S : Nat) : Int) + ((p : Nat) : Int) ≤ 1000000 := by have := unhide HM; have := unhide HPM; have := unhide HT; omega
        rw [← hp] at HC HT
        rw [← hS]
        clear he hle hpl hS hp hmem HEL
        go_wp2_with fail
        refine (unhide HC).mono ?_
        rintro e w2 ⟨rfl, hb2⟩
        have HB2 := hide ((unhide HB).trans (hb2.mono (unhide HB).size))
        clear hb2
        go_wp2_with fail
        exact ⟨⟨j + 1, by omega, by go_num, by rw [unhide HT]; congr 1; have := unhide HSD; omega, unhide HB2⟩, by simp [intOf]; omega⟩
      · have e : j = n := by omega
        have hji : ¬ ((j : Nat) : Int) < ((n : Nat) : Int) := by omega
        have HTT : Hid (VD.partsL (v.l.take j) + 1 = v.parts) := by show _ = _; rw [List.take_of_length_le (by have := unhide HN; omega), unhide HPM]
        rw [unhide HTT]
        have HFB := hide ((unhide HB1).trans ((unhide HB).mono (unhide HB1).size))
        clear e
        go_wp2
        go_ret
        exact ⟨rfl, unhide HFB⟩

set_option maxRecDepth 100000 in
set_option maxHeartbeats 2000000 in
theorem vRefDeep_any (v : VD) : ∀ (B : Nat → Prop) (u : Value) (w : World), v.At B w u → v.parts ≤ 1000000 → Calls Tryz.prog 41 #[u] w fun e w' => e = .returned (.int .i64 ((v.deep : Nat) : Int)) ∧ Below w.heap.size w w' := by
  induction v using VD.induct with
  | h v ih =>
    intro B u w hA hm
    obtain ⟨a, c, rfl, hlc, hbox⟩ := hA.box
    have HBX := hide (hbox 24)
    have HB1 : Hid (Below w.heap.size w (w.alloc (.cells #[.int .u8 ((v.k : Nat) : Int), .int .i64 v.n, .string ⟨v.s.toArray⟩, .slice a v.l.length c] 24))) := (Below.refl _ w).alloc (Nat.le_refl _) _
    have HM := hide hm
    have HDM := hide v.deep_mk
    have HDP := hide (VD.deep_le_parts v.parts v (Nat.le_refl _))
    have HIH := hide ih
    clear hA hbox hm ih
    obtain ⟨n, hn⟩ : ∃ n, n = v.l.length := ⟨_, rfl⟩
    have HN := hide hn
    have hn6 : n ≤ 1000000 := by have h1 := VD.partsL_length v.l; have h2 := v.parts_mk; have := unhide HM; omega
    rw [← hn] at hlc ⊢ HBX HB1
    clear hn
    generalize (⟨v.s.toArray⟩ : ByteArray) = z at *
    go_enter Tryz.func41, Tryz.ntmps41
    go_wp2
    generalize hw1 : World.alloc w _ = w1 at HBX HB1 ⊢
    clear hw1
    go_loopw [3, 4] (fun s k W => ∃ j : Nat, j ≤ n ∧ k = .int .i64 ((j : Nat) : Int) ∧ s = .int .i64 ((VD.deepL (v.l.take j) : Nat) : Int) ∧ Below w1.heap.size w1 W) (fun _ k _ => n - (intOf k).toNat)
    case atStart => exact ⟨0, by omega, rfl, rfl, Below.refl _ _⟩
    case round =>
      obtain ⟨j, hj, rfl, rfl, hb⟩ := hrel
      have HB := hide hb
      have hbx := (unhide HBX).later hb
      have c3 := hbx.c3
      rw [← unhide HN] at c3
      have HEL := hide hbx.el
      clear hb hbx
      have HPL := hide v.parts_mk
      by_cases hlt : j < n
      · have hji : ((j : Nat) : Int) < ((n : Nat) : Int) := by omega
        have hjl : j < v.l.length := by have := unhide HN; omega
        obtain ⟨b, o, e0, e1, e2, e3, rfl, _, d0, d1, d2, d3, he⟩ := unhide HEL j hjl
        have hmem : v.l[j] ∈ v.l := List.getElem_mem hjl
        have hpl := VD.parts_lt hmem
        have HT : Hid (VD.deepL (v.l.take (j + 1)) = Nat.max (VD.deepL (v.l.take j)) (v.l[j]).deep) := by
          show _ = _
          rw [List.take_succ_eq_append_getElem hjl, VD.deepL_append]
          simp [VD.deepL]
        have HC : Hid (Calls Tryz.prog 41 #[.agg #[e0, e1, e2, e3]] wr fun e w' => e = .returned (.int .i64 (((v.l[j]).deep : Nat) : Int)) ∧ Below wr.heap.size wr w') := unhide HIH _ hmem B _ wr he (by have := unhide HM; omega)
        generalize (v.l[j]).deep = p at *
        generalize VD.deepL (v.l.take j) = S at *
        clear he hpl hmem HEL
        go_wp2_with fail
        refine (unhide HC).mono ?_
        rintro e w2 ⟨rfl, hb2⟩
        have HB2 := hide ((unhide HB).trans (hb2.mono (unhide HB).size))
        clear hb2
        by_cases hgt : p > S
        · have hgi : ((p : Nat) : Int) > ((S : Nat) : Int) := by omega
          go_wp2_with fail
          exact ⟨⟨j + 1, by omega, by go_num, by rw [unhide HT]; congr 2; exact (Nat.max_eq_right (by omega)).symm, unhide HB2⟩, by simp [intOf]; omega⟩
        · have hgi : ¬ ((p : Nat) : Int) > ((S : Nat) : Int) := by omega
          go_wp2_with fail
          exact ⟨⟨j + 1, by omega, by go_num, by rw [unhide HT]; congr 2; exact (Nat.max_eq_left (by omega)).symm, unhide HB2⟩, by simp [intOf]; omega⟩
      · have e : j = n := by omega
        have hji : ¬ ((j : Nat) : Int) < ((n : Nat) : Int) := by omega
        have HTT : Hid (VD.deepL (v.l.take j) + 1 = v.deep) := by show _ = _; rw [List.take_of_length_le (by have := unhide HN; omega), unhide HDM]
        have HFB := hide ((unhide HB1).trans ((unhide HB).mono (unhide HB1).size))
        have hbd : ((VD.deepL (v.l.take j) : Nat) : Int) ≤ 1000000 := by have := unhide HTT; have := unhide HDP; have := unhide HM; omega
        generalize VD.deepL (v.l.take j) = S at *
        clear e
        go_wp2
        go_ret
        exact ⟨ret_int (by have := unhide HTT; omega), unhide HFB⟩
end Go.Proofs.YtdlbpbglidhlfaaGreatDoor

namespace Go.Proofs.YtdlbpbglidhlfaaGreatDoor
open Go.RowKit

theorem infoVal0 : (Tryz.prog.info? 24).map (fun i => (i.size, i.bytes, i.zero.map (·.cells.size))) = some (4, 56, some 4) := by kernel_rfl
theorem infoVal : ∃ i z, Tryz.prog.info? 24 = some i ∧ i.zero = some z ∧ i.size = 4 ∧ i.bytes = 56 ∧ z.cells.size = 4 := by
  have h := infoVal0
  cases hi : Tryz.prog.info? 24 with
  | none => rw [hi] at h; cases h
  | some i =>
    rw [hi] at h
    simp only [Option.map_some, Option.some.injEq, Prod.mk.injEq] at h
    obtain ⟨h1, h2, h3⟩ := h
    cases hz : i.zero with
    | none => rw [hz] at h3; cases h3
    | some z =>
      rw [hz] at h3
      exact ⟨i, z, rfl, hz, h1, h2, by simpa using h3⟩

/-- The i-th struct of cells. -/
def aggAt (xs : List Value) (i : Nat) : Value := .agg #[xs.getD (i * 4) undef, xs.getD (i * 4 + 1) undef, xs.getD (i * 4 + 2) undef, xs.getD (i * 4 + 3) undef]
/-- The slice r, in a block of ours from B0 on, holds the values; their lists lie in other blocks from B0 on. -/
structure ValsO (B0 : Nat) (W : World) (r : Value) (q : List VD) : Prop where
  row : ∃ xs, W.ownsRow 0 24 4 r q.length xs ∧ ∀ i (h : i < q.length), (q[i]'h).At (fun k => B0 ≤ k ∧ r.ownBlock ≠ some k) W (aggAt xs i)
  new : ∀ k, r.ownBlock = some k → B0 ≤ k
theorem ValsO.nil (B0 : Nat) (W : World) : ValsO B0 W (.slice none 0 0) [] := ⟨⟨[], World.ownsRow_nil W 0 _ 4, fun i h => absurd h (Nat.not_lt_zero i)⟩, fun k hk => by cases hk⟩
theorem ownsV_keeps {W W' : World} {e : TypeId} {s : Nat} {v : Value} {n : Nat} {xs : List Value} (h : W.ownsRow 0 e s v n xs) (hk : ∀ k, v.ownBlock = some k → W'.heap[k]? = W.heap[k]?) : W'.ownsRow 0 e s v n xs := by
  refine ⟨h.1, ?_⟩
  rcases h.2 with hn | ⟨g, cap, cur, hv, hb0, hg, rest⟩
  · exact .inl hn
  · exact .inr ⟨g, cap, cur, hv, hb0, (hk g (by rw [hv]; rfl)).trans hg, rest⟩
theorem ValsO.later {B0 : Nat} {W W' : World} {r : Value} {q : List VD} (h : ValsO B0 W r q) (hb : Below W.heap.size W W') : ValsO B0 W' r q := by
  obtain ⟨⟨xs, h1, h2⟩, h3⟩ := h
  exact ⟨⟨xs, ownsV_keeps h1 fun k hk => hb.block k (h1.lt k hk).2, fun i hi => (h2 i hi).later hb⟩, h3⟩
/-- A store elsewhere. -/
theorem ValsO.set {B0 : Nat} {W : World} {r : Value} {q : List VD} (h : ValsO B0 W r q) {p : Addr} (hp : p.block < B0) (v : Value) : ValsO B0 (W.setCell p v) r q := by
  obtain ⟨⟨xs, h1, h2⟩, h3⟩ := h
  refine ⟨⟨xs, ownsV_keeps h1 fun k hk => Below.heap_setCell _ _ _ _ (by have := h3 k hk; omega), fun i hi => (h2 i hi).kept (fun k hk _ => Below.heap_setCell _ _ _ _ (by have := hk.1; omega)) (fun _ h _ => h)⟩, h3⟩
/-- What such a row reads as. -/
theorem ValsO.at {B0 : Nat} {W : World} {r : Value} {q : List VD} (h : ValsO B0 W r q) {k : Nat} {n : Int} {s : List UInt8} (hk : k < 256) (hn : InR n) (hs : s.length ≤ maxLen) : (VD.mk k n s q).At (fun b => B0 ≤ b) W (.agg #[.int .u8 ((k : Nat) : Int), .int .i64 n, .string ⟨s.toArray⟩, r]) := by
  obtain ⟨⟨xs, h1, h2⟩, h3⟩ := h
  rw [VD.at_iff]
  rcases h1.2 with ⟨e, e0⟩ | ⟨g, cap, cur, e, _, hg, hc, hm, hcs, htk⟩
  · subst e
    have : q = [] := List.eq_nil_of_length_eq_zero e0
    subst this
    exact ⟨none, 0, rfl, hk, hn, hs, Nat.le_refl _, Nat.zero_le _, fun j hj => absurd hj (Nat.not_lt_zero j)⟩
  · subst e
    have hxl : xs.length = q.length * 4 := h1.1
    refine ⟨some ⟨g, 0, none⟩, cap, rfl, hk, hn, hs, hc, hm, fun j hj => ?_⟩
    have hj : j < q.length := hj
    have hcell : ∀ p, p < q.length * 4 → W.cell? ⟨g, 0 + p, none⟩ = some (xs.getD p undef) := fun p hp => by
      have h5 := h1.cells (g := g) rfl p (xs.getD p undef) (by rw [List.getD_eq_getElem?_getD, List.getElem?_eq_getElem (by omega)]; rfl)
      rw [Addr.add_mid] at h5
      exact h5
    refine ⟨g, 0, _, _, _, _, rfl, h3 g rfl, hcell (j * 4) (by omega), ?_, ?_, ?_, (h2 j hj).wider fun b hb => hb.1⟩
    · have := hcell (j * 4 + 1) (by omega); rwa [show 0 + (j * 4 + 1) = 0 + j * 4 + 1 by omega] at this
    · have := hcell (j * 4 + 2) (by omega); rwa [show 0 + (j * 4 + 2) = 0 + j * 4 + 2 by omega] at this
    · have := hcell (j * 4 + 3) (by omega); rwa [show 0 + (j * 4 + 3) = 0 + j * 4 + 3 by omega] at this
theorem ValsO.form {B0 : Nat} {W : World} {r : Value} {q : List VD} (h : ValsO B0 W r q) : ∃ a c, r = .slice a q.length c ∧ q.length ≤ c := by
  obtain ⟨⟨xs, h1, h2⟩, h3⟩ := h
  rcases h1.2 with ⟨e, e0⟩ | ⟨g, cap, cur, e, _, hg, hc, _⟩
  · exact ⟨none, 0, by rw [e, e0], by omega⟩
  · exact ⟨_, cap, e, hc⟩

/-- append of one value: the row goes on in its block, or in a new one. -/
theorem ValsO.append {B0 : Nat} {W : World} {r : Value} {q : List VD} (h : ValsO B0 W r q) (hB : B0 ≤ W.heap.size) {x : VD} {e0 e1 e2 e3 : Value} (hx : x.At (fun k => B0 ≤ k ∧ r.ownBlock ≠ some k) W (.agg #[e0, e1, e2, e3])) {ad : Addr} {c : Nat}
    (d0 : W.cell? (ad.add 0) = some e0) (d1 : W.cell? (ad.add 1) = some e1) (d2 : W.cell? (ad.add 2) = some e2) (d3 : W.cell? (ad.add 3) = some e3) (hl : q.length ≤ 1048576) (ty : TypeId) :
    ∃ r' W', (Builtin.append_ #[22, 22] ty #[r, .slice (some ad) 1 c]).run Tryz.prog W = .ok r' W' ∧ ValsO B0 W' r' (q ++ [x]) ∧ W.grownBy W' r.ownBlock := by
  obtain ⟨i, z, hi, hz, hs, hb, hzs⟩ := infoVal
  obtain ⟨⟨xs, h1, h2⟩, h3⟩ := h
  have hxl : xs.length = q.length * 4 := h1.1
  have hone : ∀ u ∈ [e0, e1, e2, e3], u.oneCell' = true := by
    rw [VD.at_iff] at hx
    obtain ⟨a, c', h, _⟩ := hx
    simp only [Value.agg.injEq] at h
    have h := congrArg Array.toList h
    simp only [List.cons.injEq, and_true] at h
    obtain ⟨rfl, rfl, rfl, rfl⟩ := h
    intro u hu
    simp only [List.mem_cons, List.mem_nil_iff, or_false] at hu
    rcases hu with rfl | rfl | rfl | rfl <;> rfl
  have hcells : ∀ j u, [e0, e1, e2, e3][j]? = some u → W.cell? (ad.add j) = some u := fun j u hj => by
    match j, hj with
    | 0, hj => cases hj; exact d0
    | 1, hj => cases hj; exact d1
    | 2, hj => cases hj; exact d2
    | 3, hj => cases hj; exact d3
  have fin : ∀ r' W', W'.ownsRow 0 24 4 r' (q.length + 1) (xs ++ [e0, e1, e2, e3]) → W.grownBy W' r.ownBlock → (r'.ownBlock = r.ownBlock ∨ ∃ k, r'.ownBlock = some k ∧ W.heap.size ≤ k) → ValsO B0 W' r' (q ++ [x]) := fun r' W' g1 g2 g3 => by
    have kept : ∀ {y : VD} {u : Value}, y.At (fun k => B0 ≤ k ∧ r.ownBlock ≠ some k) W u → y.At (fun k => B0 ≤ k ∧ r'.ownBlock ≠ some k) W' u := fun hy =>
      hy.kept (fun k hk hlt => g2.block k hlt (fun e => hk.2 e.symm)) (fun k hk hlt => ⟨hk.1, fun e => by
        rcases g3 with e2 | ⟨k', e2, hle⟩
        · rw [e2] at e; exact hk.2 e
        · rw [e2] at e; cases e; omega⟩)
    refine ⟨⟨xs ++ [e0, e1, e2, e3], by rw [List.length_append, List.length_singleton]; exact g1, fun i hi => ?_⟩, fun k hk => ?_⟩
    · rw [List.length_append, List.length_singleton] at hi
      by_cases hlt : i < q.length
      · rw [List.getElem_append_left hlt]
        have ge : ∀ p, p < q.length * 4 → (xs ++ [e0, e1, e2, e3]).getD p undef = xs.getD p undef := fun p hp => by
          rw [List.getD_eq_getElem?_getD, List.getD_eq_getElem?_getD, List.getElem?_append_left (by omega)]
        have e : aggAt (xs ++ [e0, e1, e2, e3]) i = aggAt xs i := by unfold aggAt; rw [ge _ (by omega), ge _ (by omega), ge _ (by omega), ge _ (by omega)]
        rw [e]
        exact kept (h2 i hlt)
      · have hi' : i = q.length := by omega
        subst hi'
        rw [List.getElem_append_right (Nat.le_refl _)]
        have ge : ∀ p, p < 4 → (xs ++ [e0, e1, e2, e3]).getD (q.length * 4 + p) undef = [e0, e1, e2, e3].getD p undef := fun p hp => by
          rw [List.getD_eq_getElem?_getD, List.getD_eq_getElem?_getD, List.getElem?_append_right (by omega), hxl, Nat.add_sub_cancel_left]
        have e : aggAt (xs ++ [e0, e1, e2, e3]) q.length = .agg #[e0, e1, e2, e3] := by
          unfold aggAt
          have z0 := ge 0 (by omega)
          rw [Nat.add_zero] at z0
          rw [z0, ge 1 (by omega), ge 2 (by omega), ge 3 (by omega)]
          rfl
        rw [e]
        simpa using kept hx
    · rcases g3 with e2 | ⟨k', e2, hle⟩
      · rw [e2] at hk; exact h3 k hk
      · rw [e2] at hk; cases hk; omega
  rcases h1.2 with ⟨rfl, hn⟩ | ⟨g, cap, cur, rfl, _, hg, hnc, hcm, hcs, htk⟩
  · have hxn : xs = [] := List.eq_nil_of_length_eq_zero (by omega)
    subst hxn
    obtain ⟨r', W', hrun, r1, r2, _⟩ := run_append_own (P := Tryz.prog) W W.heap.size 22 ty 24 i z 4 56 Tryz.underlying22 hi hz hs hb hzs (by decide) (.slice none 0 0) 0 [] (World.ownsRow_nil W _ _ 4) ad 1 c [e0, e1, e2, e3] rfl hcells hone (by unfold maxLen; omega) (by omega) (Nat.le_refl _)
    refine ⟨r', W', hrun, fin r' W' ?_ r2 ?_, r2⟩
    · rw [hn]
      refine ⟨r1.1, ?_⟩
      rcases r1.2 with ⟨a, b⟩ | ⟨g, cap, cur, a, b, rest⟩
      · exact .inl ⟨a, b⟩
      · exact .inr ⟨g, cap, cur, a, Nat.zero_le _, rest⟩
    · rcases r1.2 with ⟨a, b⟩ | ⟨g, cap, cur, a, b, rest⟩
      · omega
      · exact .inr ⟨g, by rw [a]; rfl, b⟩
  · by_cases hroom : q.length + 1 ≤ cap
    · obtain ⟨W', hrun, r1, r2⟩ := run_append_fits (P := Tryz.prog) W 0 22 ty 24 i 4 Tryz.underlying22 hi hs g q.length cap xs h1 ad 1 c [e0, e1, e2, e3] rfl hcells hone hroom
      exact ⟨_, W', hrun, fin _ W' r1 r2 (.inl rfl), r2⟩
    · have hold : ∀ j u, xs[j]? = some u → W.cell? ((⟨g, 0, none⟩ : Addr).add j) = some u := h1.cells (g := g) rfl
      obtain ⟨r', W', hrun, r1, r2⟩ := run_append_arg_grows (P := Tryz.prog) W 22 ty 24 i z 4 56 Tryz.underlying22 hi hz hs hb hzs (by decide) ⟨g, 0, none⟩ q.length cap xs hxl hold ad 1 c [e0, e1, e2, e3] rfl hcells (by omega) (by unfold maxLen; omega) (by omega)
      have r3 : W.grownBy W' (some g) := ⟨r2.os, r2.tape, r2.output, r2.size, fun k hk _ => r2.block k hk (by simp)⟩
      refine ⟨r', W', hrun, fin r' W' ?_ r3 ?_, r3⟩
      · refine ⟨r1.1, ?_⟩
        rcases r1.2 with ⟨a, b⟩ | ⟨g', cap', cur', a, b, rest⟩
        · exact .inl ⟨a, b⟩
        · exact .inr ⟨g', cap', cur', a, Nat.zero_le _, rest⟩
      · rcases r1.2 with ⟨a, b⟩ | ⟨g', cap', cur', a, b, rest⟩
        · omega
        · exact .inr ⟨g', by rw [a]; rfl, b⟩
end Go.Proofs.YtdlbpbglidhlfaaGreatDoor

namespace Go.Proofs.YtdlbpbglidhlfaaGreatDoor
open Go.RowKit

theorem wRefPlain_any (n : Int) (hn : InR n) (w : World) : Calls Tryz.prog 53 #[.int .i64 n] w fun e w' => e = .returned (.int .u64 (zz n : Nat)) ∧ w' = w := by
  obtain ⟨h1, h2⟩ := hn
  by_cases h : n < 0
  · have HZ : Hid ((zz n : Int) = -2 * n - 1) := by show _ = _; unfold zz; rw [if_pos h]; omega
    have h' : ¬ n ≥ 0 := by omega
    go_enter Tryz.func53, Tryz.ntmps53
    go_wp2
    go_ret
    refine ⟨ret_int ?_, rfl⟩
    rw [unhide HZ]
    try simp only [IntKind.wrap_u64]
    omega
  · have HZ : Hid ((zz n : Int) = 2 * n) := by show _ = _; unfold zz; rw [if_neg h]; omega
    have h' : n ≥ 0 := by omega
    go_enter Tryz.func53, Tryz.ntmps53
    go_wp2
    go_ret
    refine ⟨ret_int ?_, rfl⟩
    rw [unhide HZ]

set_option maxRecDepth 100000 in
set_option maxHeartbeats 2000000 in
theorem wRefNum_any (n : Int) (hn : InR n) (w : World) : Calls Tryz.prog 32 #[.int .i64 n] w fun e w' => ∃ r, e = .returned r ∧ Own w r (numB n) w' := by
  obtain ⟨ti, hti, hz0, hz1, hz2⟩ := infoByte
  have HN := hide hn
  have HT := hide (numB_ten hn)
  clear hn
  go_enter Tryz.func32, Tryz.ntmps32
  go_wp2_with fail
  refine (wRefPlain_any n (unhide HN) _).mono ?_
  rintro e w1 ⟨rfl, hw⟩
  rw [hw]
  clear hw w1
  have HZL := hide (zz_lt (unhide HN))
  go_wp2
  go_loopw [3, 4] (fun u r W => ∃ (v : Nat) (pre : List UInt8), u = .int .u64 ((v : Nat) : Int) ∧ v < 18446744073709551616 ∧ pre ++ grp v = numB n ∧ Own w r pre W) (fun u _ _ => (intOf u).toNat)
  case atStart => exact ⟨zz n, [], rfl, unhide HZL, rfl, Own.start w⟩
  case round =>
    obtain ⟨v, pre, rfl, hv, he, hO⟩ := hrel
    have HV := hide hv
    have HO := hide hO
    have HL : Hid (pre.length < (numB n).length) := by
      show _ < _
      have h1 := congrArg List.length he
      have := grp_pos v
      rw [List.length_append] at h1
      omega
    by_cases hlt : 128 ≤ v
    · have hge : ((v : Nat) : Int) ≥ 128 := by omega
      have hx : ((v : Nat) : Int) % 128 + 128 = (((UInt8.ofNat (128 + v % 128)).toNat : Nat) : Int) := by rw [u8_toNat (by omega)]; omega
      have HE : Hid ((pre ++ [UInt8.ofNat (128 + v % 128)]) ++ grp (v / 128) = numB n) := by
        show _ = _
        rw [← he, grp_high hlt, List.append_assoc]; rfl
      generalize UInt8.ofNat (128 + v % 128) = y at *
      have HYB := hide (bytes_one wr y)
      have HOA := hide ((unhide HO).alloc (.cells #[.int .u8 (y.toNat : Nat)] 5))
      clear hO he
      go_wp2_with (at_builtin; refine wpList_append_bytes _ rfl _ _ 28 rfl 5 ti (.int .u8 0) Tryz.underlying28 hti hz0 hz1 hz2 rfl _ pre rfl (unhide HOA).own _ [y] rfl (unhide HYB) (by have := unhide HL; have := unhide HT; simp; omega) ?_)
      rintro v' w2 r1 r2 r3
      have HO2 := hide ((unhide HOA).grown (cs := pre ++ [y]) (by simpa using r1) r2 (by simpa using r3))
      clear r1 r2 r3
      go_wp2
      exact ⟨⟨v / 128, _, by go_num, by omega, unhide HE, unhide HO2⟩, by simp [intOf]; omega⟩
    · have hge : ¬ ((v : Nat) : Int) ≥ 128 := by omega
      have hx : Hid (((v : Nat) : Int) = (((UInt8.ofNat v).toNat : Nat) : Int)) := by show _ = _; rw [u8_toNat (by omega)]
      have HE : Hid (pre ++ [UInt8.ofNat v] = numB n) := by
        show _ = _
        rw [← he, grp_low (by omega)]
      generalize UInt8.ofNat v = y at *
      have HYB : Hid (Bytes (wr.alloc (.cells #[.int .u8 ((v : Nat) : Int)] 5)) (.slice (some ⟨wr.heap.size, 0, none⟩) 1 1) [y]) := by rw [unhide hx]; exact bytes_one wr y
      have HOA := hide ((unhide HO).alloc (.cells #[.int .u8 ((v : Nat) : Int)] 5))
      clear hO he hv
      go_wp2_with (at_builtin; refine wpList_append_bytes _ rfl _ _ 28 rfl 5 ti (.int .u8 0) Tryz.underlying28 hti hz0 hz1 hz2 rfl _ pre rfl (unhide HOA).own _ [y] rfl (unhide HYB) (by have := unhide HL; have := unhide HT; simp; omega) ?_)
      rintro v' w2 r1 r2 r3
      have HO2 := hide ((unhide HOA).grown (cs := pre ++ [y]) (by simpa using r1) r2 (by simpa using r3))
      clear r1 r2 r3
      go_wp2
      go_ret
      refine ⟨_, rfl, ?_⟩
      rw [← unhide HE]
      exact unhide HO2

set_option maxRecDepth 100000 in
set_option maxHeartbeats 2000000 in
theorem wRefText_any (s : List UInt8) (hs : s.length ≤ 1048576) (w : World) : Calls Tryz.prog 34 #[.string ⟨s.toArray⟩] w fun e w' => ∃ r, e = .returned r ∧ Own w r (textB s) w' := by
  obtain ⟨ti, hti, hz0, hz1, hz2⟩ := infoByte
  have hsz : (⟨s.toArray⟩ : ByteArray).size = s.length := by simp [ByteArray.size]
  have hget : ∀ j (h : j < s.length) (h' : j < (⟨s.toArray⟩ : ByteArray).size), (⟨s.toArray⟩ : ByteArray)[j]'h' = s[j]'h := fun j h h' => by
    show s.toArray[j] = s[j]'h
    simp
  obtain ⟨z, hz⟩ : ∃ z : ByteArray, z = ⟨s.toArray⟩ := ⟨_, rfl⟩
  rw [← hz] at hsz hget ⊢
  have HGET := hide hget
  have HN : Hid (InR ((s.length : Nat) : Int)) := by show InR _; unfold InR; omega
  have HT := hide (numB_ten (unhide HN))
  have HTB : Hid (textB s = numB ((s.length : Nat) : Int) ++ s) := rfl
  obtain ⟨n, hn⟩ : ∃ n, n = s.length := ⟨_, rfl⟩
  rw [← hn] at hsz hs HN HT HTB
  have HNS := hide hn
  clear hz hget hn
  go_enter Tryz.func34, Tryz.ntmps34
  go_wp2_with fail
  refine (wRefNum_any _ (unhide HN) _).mono ?_
  rintro e w1 ⟨r, rfl, hO⟩
  have HO := hide hO
  clear hO
  go_wp2
  go_loopw [3, 4] (fun r k W => ∃ j : Nat, j ≤ n ∧ k = .int .i64 j ∧ Own w r (numB ((n : Nat) : Int) ++ s.take j) W) (fun _ k _ => n - (intOf k).toNat)
  case atStart => exact ⟨0, by omega, rfl, by simpa using unhide HO⟩
  case round =>
    obtain ⟨j, hj, rfl, hO⟩ := hrel
    have HO := hide hO
    clear hO
    by_cases hlt : j < n
    · have hk1 : (j : Int) < (n : Int) := by omega
      have hjz : j < z.size := by omega
      have HS : Hid (s.take (j + 1) = s.take j ++ [z[j]'hjz]) := by
        show _ = _
        rw [List.take_succ_eq_append_getElem (by have := unhide HNS; omega), unhide HGET j (by have := unhide HNS; omega) hjz]
      have HSL : Hid ((s.take j).length ≤ n) := by show _ ≤ _; rw [List.length_take]; omega
      have HYB := hide (bytes_one wr (z[j]'hjz))
      have HOA := hide ((unhide HO).alloc (.cells #[.int .u8 ((z[j]'hjz).toNat : Nat)] 5))
      go_wp2_with (at_builtin; refine wpList_append_bytes _ rfl _ _ 28 rfl 5 ti (.int .u8 0) Tryz.underlying28 hti hz0 hz1 hz2 rfl _ _ rfl (unhide HOA).own _ [z[j]'hjz] rfl (unhide HYB) (by have := unhide HSL; have := unhide HT; simp only [List.length_append, List.length_singleton]; omega) ?_)
      rintro v' w2 r1 r2 r3
      have HO2 := hide ((unhide HOA).grown (cs := (numB ((n : Nat) : Int) ++ s.take j) ++ [z[j]'hjz]) (by simpa using r1) r2 (by simpa using r3))
      clear r1 r2 r3
      go_wp2
      exact ⟨⟨j + 1, by omega, by go_num, by rw [unhide HS, ← List.append_assoc]; exact unhide HO2⟩, by simp [intOf]; omega⟩
    · have e : j = n := by omega
      subst e
      have HTK : Hid (s.take j = s) := List.take_of_length_le (by have := unhide HNS; omega)
      rw [unhide HTK] at HO
      go_wp2
      go_ret
      refine ⟨_, rfl, ?_⟩
      rw [unhide HTB]
      exact unhide HO
end Go.Proofs.YtdlbpbglidhlfaaGreatDoor

namespace Go.Proofs.YtdlbpbglidhlfaaGreatDoor
open Go.RowKit

/-- What the document's TakeNum tells of bytes. -/
def RefNum (bs : List UInt8) (e : Ending) : Prop :=
  (∃ (x : Int) (k : Nat), Reads bs x k ∧ e = .returned (.tuple #[.int .i64 x, .int .i64 ((k : Nat) : Int)])) ∨ (NoNum bs ∧ e = .returned (.tuple #[.int .i64 0, .int .i64 0]))

theorem pow128_le {j : Nat} (h : j ≤ 9) : 128 ^ j ≤ 9223372036854775808 := by
  have h1 := Nat.pow_le_pow_right (n := 128) (by omega) h
  have h2 : (128 ^ 9 : Nat) = 9223372036854775808 := by decide
  omega

set_option maxRecDepth 100000 in
set_option maxHeartbeats 4000000 in
theorem wRefTakeNum_any (u : Value) (bs : List UInt8) (w : World) (h : Bytes w u bs) (hl : bs.length ≤ 1048576) : Calls Tryz.prog 61 #[u] w fun e w' => RefNum bs e ∧ w' = w := by
  obtain ⟨a, c, rfl, hlc⟩ := h.form
  obtain ⟨n, hn⟩ : ∃ n, n = bs.length := ⟨_, rfl⟩
  rw [← hn] at h hlc hl ⊢
  have HH := hide h
  have HN := hide hn
  clear h hn
  go_enter Tryz.func61, Tryz.ntmps61
  go_wp2
  go_loopw [4, 5, 6] (fun u v k W => ∃ j U V : Nat, j ≤ n ∧ j ≤ 10 ∧ k = .int .i64 j ∧ u = .int .u64 ((U : Nat) : Int) ∧ v = .int .u64 ((V : Nat) : Int) ∧ Highs (bs.take j) ∧ (j ≤ 9 → U = val (bs.take j) ∧ V = 128 ^ j) ∧ W = w) (fun _ _ k _ => n - (intOf k).toNat)
  case atStart => exact ⟨0, 0, 1, by omega, by omega, rfl, rfl, rfl, fun x hx => by simp at hx, fun _ => ⟨by simp [val], rfl⟩, rfl⟩
  case round =>
    obtain ⟨j, U, V, hj, hj10, rfl, rfl, rfl, hH, hUV, hw⟩ := hrel
    rw [hw]
    clear hw
    have HHI := hide hH
    by_cases hlt : j < n
    · by_cases h9 : j ≤ 9
      · obtain ⟨hU, hV⟩ := hUV h9
        have hl1 : (bs.take j).length = j := by rw [List.length_take]; have := unhide HN; omega
        have hUV2 := val_lt (bs.take j)
        rw [hl1, ← hU, ← hV] at hUV2
        have hVm : V ≤ 9223372036854775808 := by rw [hV]; exact pow128_le h9
        have hV8 : j ≤ 8 → V ≤ 72057594037927936 := fun h8 => by
          rw [hV]
          have h1 := Nat.pow_le_pow_right (n := 128) (by omega) h8
          have h2 : (128 ^ 8 : Nat) = 72057594037927936 := by decide
          omega
        have hVs : 128 ^ (j + 1) = V * 128 := by rw [hV, Nat.pow_succ]
        have HVS := hide hVs
        obtain ⟨ad, rfl, hc⟩ := (unhide HH).at hlt (unhide HN).symm
        have hk1 : (j : Int) < (n : Int) := by omega
        have hk2 : (j : Int) < 10 := by omega
        have HP : Hid (bs = bs.take j ++ bs.getD j 0 :: bs.drop (j + 1)) := by
          show _ = _
          rw [List.getD_eq_getElem?_getD, List.getElem?_eq_getElem (by have := unhide HN; omega), Option.getD_some, ← List.drop_eq_getElem_cons, List.take_append_drop]
        have HSU : Hid (bs.take (j + 1) = bs.take j ++ [bs.getD j 0]) := by
          show _ = _
          rw [List.getD_eq_getElem?_getD, List.getElem?_eq_getElem (by have := unhide HN; omega), List.take_succ_eq_append_getElem (by have := unhide HN; omega)]
          rfl
        have HL1 := hide hl1
        have HU := hide hU
        have HV := hide hV
        clear hU hV hUV hH hl1 hVs
        generalize hyy : bs.getD j 0 = y at *
        have hyb := y.toNat_lt
        obtain ⟨x, hx⟩ : ∃ x, x = y.toNat % 128 := ⟨_, rfl⟩
        have hxc : ((y.toNat : Nat) : Int) % 128 = ((x : Nat) : Int) := by omega
        have hx128 : x < 128 := by omega
        have HX := hide hx
        clear hx hyy
        by_cases hbig : j = 9 ∧ 1 < x
        · obtain ⟨hj9, h1x⟩ := hbig
          have hx1 : decide (((x : Nat) : Int) > 1) = true := decide_eq_true (by omega)
          have hb9 : (((j : Nat) : Int) == 9) = true := by rw [beq_iff_eq]; omega
          have HJ9 := hide hj9
          have H1X := hide h1x
          clear hj9 h1x
          go_wp2_with fail
          go_ret2
          refine ⟨.inr ⟨?_, rfl⟩, rfl⟩
          by_cases hy : y.toNat < 128
          · rw [unhide HP]
            exact noNum_big (unhide HHI) (by have := unhide HX; have := unhide H1X; omega) hy (by rw [unhide HL1]; exact unhide HJ9)
          · refine noNum_highs (k := j + 1) ?_ (.inl (by have := unhide HJ9; omega))
            rw [unhide HSU]
            intro z hz
            rcases List.mem_append.1 hz with h1 | h1
            · exact unhide HHI z h1
            · rw [List.mem_singleton.1 h1]; omega
        · have HPX : Hid (x * V ≤ 9223372036854775808 * 127 ∧ U + x * V < 18446744073709551616) := by
            show _ ∧ _
            by_cases h8 : j ≤ 8
            · have h1 := hV8 h8
              have h2 : x * V ≤ 127 * V := Nat.mul_le_mul_right _ (by omega)
              omega
            · have h9 : j = 9 := by omega
              have h1 : x ≤ 1 := by omega
              have h2 : x * V ≤ 1 * V := Nat.mul_le_mul_right _ h1
              omega
          obtain ⟨P, hP⟩ : ∃ P, P = x * V := ⟨_, rfl⟩
          have hpi : ((x : Nat) : Int) * ((V : Nat) : Int) = ((P : Nat) : Int) := by rw [hP, Int.natCast_mul]
          rw [← hP] at HPX
          have hp1 := (unhide HPX).1
          have hp2 := (unhide HPX).2
          have HPD := hide hP
          clear hP
          obtain ⟨S, hS⟩ : ∃ S, S = U + P := ⟨_, rfl⟩
          have hsi : ((U : Nat) : Int) + ((P : Nat) : Int) = ((S : Nat) : Int) := by omega
          have hs64 : S < 18446744073709551616 := by omega
          have HUP : Hid (S = val (bs.take j ++ [y])) := by
            show _ = _
            rw [hS, val_append, unhide HL1, ← unhide HU, ← unhide HV]
            simp only [val]
            rw [Nat.mul_zero, Nat.add_zero, ← unhide HX, unhide HPD, Nat.mul_comm]
          obtain ⟨V2, hV2, hwV⟩ : ∃ V2 : Nat, (j ≤ 8 → V2 = 128 ^ (j + 1)) ∧ IntKind.u64.wrap (((V : Nat) : Int) * 128) = ((V2 : Nat) : Int) := by
            refine ⟨V * 128 % 18446744073709551616, fun h8 => ?_, ?_⟩
            · have := hV8 h8
              rw [unhide HVS]
              omega
            · rw [IntKind.wrap_u64]; omega
          have HV2 := hide hV2
          have HBIG := hide hbig
          have HS64 := hide hs64
          have hor : (j = 9 ∧ (((j : Nat) : Int) == 9) = true ∧ decide (((x : Nat) : Int) > 1) = false) ∨ (¬ j = 9 ∧ (((j : Nat) : Int) == 9) = false) := by
            by_cases h : j = 9
            · exact .inl ⟨h, by rw [beq_iff_eq]; omega, decide_eq_false (by omega)⟩
            · exact .inr ⟨h, by rw [beq_eq_false_iff_ne]; omega⟩
          have hpu : P < 18446744073709551616 := by omega
          clear hbig hV2 hS hp1 hp2 hUV2 hVm hV8
          have hwj : IntKind.i64.wrap (((j : Nat) : Int) + 1) = ((j : Nat) : Int) + 1 := by rw [IntKind.wrap_i64]; omega
          rcases hor with ⟨hj9, h9i, hx1⟩ | ⟨hj9, h9i⟩
          all_goals (
            have HJ9 := hide hj9
            clear hj9
            by_cases hy : y.toNat < 128
            · have hyi : ¬ ((y.toNat : Nat) : Int) ≥ 128 := by omega
              by_cases hz : x = 0 ∧ 0 < j
              · have hz1 : (((x : Nat) : Int) == 0) = true := by rw [beq_iff_eq]; omega
                have hz2 : decide (((j : Nat) : Int) > 0) = true := decide_eq_true (by omega)
                have hz2n : decide (0 < j) = true := decide_eq_true (by omega)
                have HZ := hide hz
                clear hz
                go_wp2_with fail
                go_ret2
                refine ⟨.inr ⟨?_, rfl⟩, rfl⟩
                rw [unhide HP]
                refine noNum_zero (unhide HHI) (by have := unhide HX; have := (unhide HZ).1; omega) (fun e => ?_)
                have h1 := unhide HL1
                rw [e] at h1
                have := (unhide HZ).2
                simp at h1
                omega
              · have hzo : ((((x : Nat) : Int) == 0) = true ∧ decide (((j : Nat) : Int) > 0) = false ∧ decide (0 < j) = false) ∨ (((x : Nat) : Int) == 0) = false := by
                  by_cases h : x = 0
                  · exact .inl ⟨by rw [beq_iff_eq]; omega, decide_eq_false (by omega), decide_eq_false (by omega)⟩
                  · exact .inr (by rw [beq_eq_false_iff_ne]; omega)
                have HZ := hide hz
                clear hz
                have HRD : Hid (Reads bs (unz S) (j + 1)) := by
                  have h1 := Reads.made (p := bs.take j) (y := y) (r := bs.drop (j + 1)) (unhide HHI) hy (by
                    by_cases h : x = 0
                    · have hj0 : j = 0 := Nat.eq_zero_of_not_pos fun h' => unhide HZ ⟨h, h'⟩
                      exact .inl (by rw [hj0]; rfl)
                    · exact .inr (by have := unhide HX; omega)) (by
                    rw [unhide HL1]
                    by_cases h : j = 9
                    · refine .inr ⟨h, ?_⟩
                      have h2 : ¬ 1 < x := fun h' => unhide HBIG ⟨h, h'⟩
                      have := unhide HX
                      omega
                    · exact .inl (by omega))
                  rw [← unhide HP, ← unhide HUP, unhide HL1] at h1
                  exact h1
                rcases hzo with ⟨hz1, hz2, hz2n⟩ | hz1 <;> by_cases hodd : S % 2 = 0
                all_goals (
                  first
                  | (have ho : ((S : Nat) : Int) % 2 = 0 := by omega
                     have HUZ : Hid (unz S = ((S / 2 : Nat) : Int)) := by show _ = _; unfold unz; rw [if_neg (by omega)])
                  | (have ho : ¬ ((S : Nat) : Int) % 2 = 0 := by omega
                     have HUZ : Hid (unz S = -((S / 2 : Nat) : Int) - 1) := by show _ = _; unfold unz; rw [if_pos (by omega)])
                  clear hodd
                  go_wp2_with fail
                  go_ret2
                  refine ⟨.inl ⟨_, _, unhide HRD, ?_⟩, rfl⟩
                  rw [unhide HUZ]
                  simp)
            · have hyi : ((y.toNat : Nat) : Int) ≥ 128 := by omega
              go_wp2_with fail
              refine ⟨⟨j + 1, S, V2, by omega, by omega, by go_num, rfl, rfl, ?_, fun h8 => ⟨?_, unhide HV2 (by omega)⟩, trivial⟩, by simp [intOf]; omega⟩
              · rw [unhide HSU]
                intro z hz
                rcases List.mem_append.1 hz with h1 | h1
                · exact unhide HHI z h1
                · rw [List.mem_singleton.1 h1]; omega
              · rw [unhide HSU]; exact unhide HUP)
      · have hj' : j = 10 := by omega
        have hk2 : ¬ ((j : Nat) : Int) < 10 := by omega
        have hk1 : ((j : Nat) : Int) < ((n : Nat) : Int) := by omega
        have HJ := hide hj'
        clear hj' hUV h9 hlt
        go_wp2_with fail
        go_ret2
        exact ⟨.inr ⟨noNum_highs (unhide HHI) (.inl (unhide HJ)), rfl⟩, rfl⟩
    · have e : j = n := by omega
      have hk1 : ¬ ((j : Nat) : Int) < ((n : Nat) : Int) := by omega
      have HE := hide e
      clear e hUV hlt
      go_wp2_with fail
      go_ret2
      exact ⟨.inr ⟨noNum_highs (unhide HHI) (.inr (by have := unhide HE; have := unhide HN; omega)), rfl⟩, rfl⟩
end Go.Proofs.YtdlbpbglidhlfaaGreatDoor

namespace Go.Proofs.YtdlbpbglidhlfaaGreatDoor
open Go.RowKit

/-- What the document's TakeText tells of bytes. -/
def RefText (bs : List UInt8) (most : Int) (e : Ending) : Prop :=
  (∃ (s : List UInt8) (k : Nat), ReadsT bs most s k ∧ e = .returned (.tuple #[.string ⟨s.toArray⟩, .int .i64 ((k + s.length : Nat) : Int), .bool true])) ∨
  (NoText bs most ∧ e = .returned (.tuple #[.string ⟨#[]⟩, .int .i64 0, .bool false]))

set_option maxRecDepth 100000 in
set_option maxHeartbeats 4000000 in
theorem wRefTakeText_any (u : Value) (bs : List UInt8) (most : Int) (w : World) (h : Bytes w u bs) (hl : bs.length ≤ 1048576) (hmost : InR most) : Calls Tryz.prog 63 #[u, .int .i64 most] w fun e w' => RefText bs most e ∧ w' = w := by
  obtain ⟨a, c, rfl, hlc⟩ := h.form
  obtain ⟨n, hn⟩ : ∃ n, n = bs.length := ⟨_, rfl⟩
  rw [← hn] at h hlc hl ⊢
  have HH := hide h
  have HN := hide hn
  have HMO := hide hmost
  clear h hn hmost
  go_enter Tryz.func63, Tryz.ntmps63
  go_wp2_with fail
  refine (wRefTakeNum_any _ bs _ (unhide HH) (by have := unhide HN; omega)).mono ?_
  rintro e w1 ⟨ht, hw⟩
  rw [hw]
  clear hw w1
  rcases ht with ⟨x, k, hr, rfl⟩ | ⟨hNo, rfl⟩
  · have HR := hide hr
    have hkn := hr.le
    rw [← unhide HN] at hkn
    have hk0 := hr.pos
    obtain ⟨hx1, hx2⟩ := hr.inr
    obtain ⟨d, hd⟩ : ∃ d : Nat, d = n - k := ⟨_, rfl⟩
    have hdi : ((n : Nat) : Int) - ((k : Nat) : Int) = ((d : Nat) : Int) := by omega
    have hdn : d ≤ 1048576 := by omega
    have hkb : (((k : Nat) : Int) == 0) = false := by rw [beq_eq_false_iff_ne]; omega
    have HKN := hide hkn
    have HD := hide hd
    have HK0 := hide hk0
    clear hr hkn hk0 hd
    by_cases hneg : x < 0
    · clear hdi
      go_wp2_with fail
      go_ret3
      exact ⟨.inr ⟨noText_of (unhide HR) (.inl hneg), rfl⟩, rfl⟩
    · by_cases hgm : x > most
      · clear hdi
        go_wp2_with fail
        go_ret3
        exact ⟨.inr ⟨noText_of (unhide HR) (.inr (.inl hgm)), rfl⟩, rfl⟩
      · by_cases hgd : x > ((d : Nat) : Int)
        · go_wp2_with fail
          go_ret3
          exact ⟨.inr ⟨noText_of (unhide HR) (.inr (.inr (by have := unhide HN; have := unhide HD; have := unhide HKN; omega))), rfl⟩, rfl⟩
        · obtain ⟨z, hz⟩ : ∃ z : Nat, x = ((z : Nat) : Int) := ⟨x.toNat, by omega⟩
          subst hz
          obtain ⟨E, hE⟩ : ∃ E : Nat, E = k + z := ⟨_, rfl⟩
          have hEi : ((k : Nat) : Int) + ((z : Nat) : Int) = ((E : Nat) : Int) := by omega
          have hEn : E ≤ n := by have := unhide HKN; have := unhide HD; omega
          have HE := hide hE
          have HRT : Hid (ReadsT bs most ((bs.drop k).take z) k) := by
            have := readsT_of (most := most) (unhide HR) (by omega) (by omega) (by have := unhide HN; have := unhide HD; have h3 := (unhide HR).le; omega)
            rw [Int.toNat_natCast] at this
            exact this
          have HTL : Hid (((bs.drop k).take z).length = z) := by show _ = _; rw [List.length_take, List.length_drop]; have := unhide HN; omega
          clear hE
          have hkE : k ≤ E := by have := unhide HE; omega
          go_wp2
          go_loopw [9, 10] (fun r i W => ∃ (j : Nat), k ≤ j ∧ j ≤ E ∧ i = .int .i64 ((j : Nat) : Int) ∧ r = .string ⟨((bs.drop k).take (j - k)).toArray⟩ ∧ W = w) (fun _ i _ => E - (intOf i).toNat)
          case atStart => exact ⟨k, Nat.le_refl _, hkE, rfl, by rw [Nat.sub_self, List.take_zero], rfl⟩
          case round =>
            obtain ⟨j, hj1, hj2, rfl, rfl, hw⟩ := hrel
            rw [hw]
            clear hw
            by_cases hlt : j < E
            · have hjE : ((j : Nat) : Int) < ((E : Nat) : Int) := by omega
              obtain ⟨sa, sc, hB, q, q', _⟩ := slice_mid (l := j) (h := j + 1) (unhide HH) (by omega) (by omega)
              rw [show j + 1 - j = 1 by omega] at hB q q'
              replace q : ∀ W : World, (Instr.slice 28 (.slice a n c) (some (.int .i64 ((j : Nat) : Int))) (some (.int .i64 (((j : Nat) : Int) + 1))) none).run Tryz.prog W = .ok (.slice sa 1 sc) W := fun W => q W
              replace q' : ∀ W : World, (Instr.sliceAt 28 (.slice a n c) (some (.int .i64 ((j : Nat) : Int))) (some (.int .i64 (((j : Nat) : Int) + 1))) none).run Tryz.prog W = .ok (.slice sa 1 sc) W := fun W => q' W
              have cv := run_convert_bytes (P := Tryz.prog) w 28 9 5 Tryz.underlying28 Tryz.underlying5 Tryz.underlying9 _ _ hB
              have hl1 : ((bs.drop k).take (j - k)).length = j - k := by rw [List.length_take, List.length_drop]; have := unhide HN; omega
              have hl2 : ((bs.drop j).take 1).length = 1 := by rw [List.length_take, List.length_drop]; have := unhide HN; omega
              have ad := run_string_add_lists (P := Tryz.prog) w ((bs.drop k).take (j - k)) ((bs.drop j).take 1) (by omega) (by omega)
              have hcat : (bs.drop k).take (j - k) ++ (bs.drop j).take 1 = (bs.drop k).take (j + 1 - k) := by
                rw [show j + 1 - k = (j - k) + 1 by omega, List.take_add, List.drop_drop, show k + (j - k) = j by omega]
              rw [hcat] at ad
              have HCV := hide cv
              generalize hs1 : (⟨((bs.drop k).take (j - k)).toArray⟩ : ByteArray) = s1 at *
              generalize hs2 : (⟨((bs.drop j).take 1).toArray⟩ : ByteArray) = s2 at *
              generalize hs3 : (⟨((bs.drop k).take (j + 1 - k)).toArray⟩ : ByteArray) = s3 at *
              have HS3 := hide hs3
              clear hs1 hs2 hs3 hB HCV hl1 hl2 hcat hneg hgm hgd
              go_wp2
              exact ⟨⟨j + 1, by omega, by omega, by go_num, by rw [unhide HS3], trivial⟩, by simp [intOf]; omega⟩
            · have e : j = E := by omega
              have hjE : ¬ ((j : Nat) : Int) < ((E : Nat) : Int) := by omega
              have HTE : Hid ((bs.drop k).take (j - k) = (bs.drop k).take z) := by show _ = _; rw [e, unhide HE, Nat.add_sub_cancel_left]
              rw [unhide HTE]
              generalize hs1 : (⟨((bs.drop k).take z).toArray⟩ : ByteArray) = s1 at *
              have HS1 := hide hs1
              clear hs1 e hneg hgm hgd
              go_wp2
              go_ret3
              refine ⟨.inl ⟨_, _, unhide HRT, ?_⟩, rfl⟩
              rw [unhide HTL, unhide HS1, ← unhide HE]
              rfl
  · go_wp2_with fail
    go_ret3
    exact ⟨.inr ⟨noText_of_noNum hNo, rfl⟩, rfl⟩
end Go.Proofs.YtdlbpbglidhlfaaGreatDoor
