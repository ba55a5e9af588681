/- FragTake, ValRefA, ValRow, WireRef, WireRefT, WireRefS, ValRefG, ValImplT, ValReadsP, ValImplL, ValRefB: our own definitions and contracts; no statement of the seat is proved here. -/
import Derived.Test.YtdlbpbglidhlfaaDoorBase04
import Derived.Test.YtdlbpbglidhlfaaDoorBase01
import Derived.OwnWalkIn
import Derived.Test.YtdlbpbglidhlfaaDoorBase00
import Derived.Test.YtdlbpbglidhlfaaDoorBase03
import Derived.Lib.AppendZeros
import Derived.WalkLawsBesides
namespace Go.Proofs.YtdlbpbglidhlfaaDoor
open Go.RowKit

/-- Blocks from b0 on of which nothing is frozen. -/
def BNew (b0 : Nat) (W : World) (k : Nat) : Prop := b0 ≤ k ∧ NFr W k
theorem BNew.but {b0 g : Nat} {W W' : World} (hu : ButF g W W') (hg : g < b0) {k : Nat} (h : BNew b0 W k) (hk : k < W.heap.size) : BNew b0 W' k := ⟨h.1, h.2.keep (hu.block k hk (by have := h.1; omega))⟩
theorem ItemsO.but {b0 g : Nat} {W W' : World} {r : Value} {q : List FI} (h : ItemsO b0 (BNew b0) W r q) (hu : ButF g W W') (hg : g < b0) : ItemsO b0 (BNew b0) W' r q :=
  h.kept (fun k hk => hu.block k (h.lt hk) (by have := h.new k hk; omega)) (fun k hk hlt => hu.block k hlt (by have := hk.1; omega)) (fun k hk hlt => hk.but hu hg hlt)

/-- Behind the reading of one item: what append does. -/
theorem items_next {w0 w W W3 : World} {g q1 rc : Nat} {ra : Option Addr} {q : List FI} {x : FI} {st : Option (List UInt8)} {z zo : ByteArray} {K pn pc : Nat} {pa : Option Addr} {wd qt : Int} (hq : q.length = q1) (h : ItemsO w.heap.size (BNew w.heap.size) W (.slice ra q1 rc) q) (hg : g < w.heap.size) (hu : ButF g w W) (hu3 : ButF g W W3) (hR : RdF w0 g st W3) (hw : w0.heap.size ≤ w.heap.size)
    (hx : x.At (fun k => W.heap.size ≤ k ∧ NFr W3 k) W3 (.agg #[.string z, .int .u8 ((K : Nat) : Int), .slice pa pn pc, .string zo, .int .i64 wd, .int .i64 qt])) (hl : q1 ≤ 1000000) (ty : TypeId) :
    ∃ ra' rc' W7, (Builtin.append_ #[25, 25] ty #[.slice ra q1 rc, .slice (some ⟨W3.heap.size, 0, none⟩) 1 1]).run Tryd.prog (W3.alloc (.cells #[.string z, .int .u8 ((K : Nat) : Int), .slice pa pn pc, .string zo, .int .i64 wd, .int .i64 qt] 60)) = .ok (.slice ra' (q1 + 1) rc') W7 ∧
      ItemsO w.heap.size (BNew w.heap.size) W7 (.slice ra' (q1 + 1) rc') (q ++ [x]) ∧ ButF g w W7 ∧ RdF w0 g st W7 := by
  obtain ⟨W4, hW4⟩ : ∃ W4, W4 = W3.alloc (.cells #[.string z, .int .u8 ((K : Nat) : Int), .slice pa pn pc, .string zo, .int .i64 wd, .int .i64 qt] 60) := ⟨_, rfl⟩
  have hb4 : Below W3.heap.size W3 W4 := by rw [hW4]; exact (Below.refl _ _).alloc (Nat.le_refl _) _
  have hr4 : W4.heap[W3.heap.size]? = some (.cells #[.string z, .int .u8 ((K : Nat) : Int), .slice pa pn pc, .string zo, .int .i64 wd, .int .i64 qt] 60 (0, 0)) := by rw [hW4]; exact heap_alloc_new _ _
  have hu34 : ButF g W W4 := hu3.trans (ButF.of hb4)
  have hu04 : ButF g w W4 := hu.trans hu34
  have h4 := h.but hu34 hg
  obtain ⟨i0, i1, i2, i3, i4, i5⟩ := cells6 hr4
  have hp := hx.parts
  have hS : ItemsAt (fun k => BNew w.heap.size W4 k ∧ (Value.slice ra q1 rc).ownBlock ≠ some k ∨ k = W3.heap.size) W4 (some ⟨W3.heap.size, 0, none⟩) [x] := fun j hj => by
    obtain rfl : j = 0 := by simp at hj; omega
    show FI.Elem _ W4 x _ 0
    obtain ⟨rfl, rfl, rfl, rfl, rfl, rfl, q1, q2, q3, q4⟩ := hp
    exact ⟨_, 0, pa, pc, rfl, .inr rfl, ⟨i0, i1, i2, i3, i4, i5⟩, q1, q2, q3, q4.kept (fun k _ hk => hb4.block k hk) (fun k hk hlt => .inl ⟨⟨Nat.le_trans hu.size hk.1, hk.2.keep (hb4.block k hlt)⟩, fun e => by have := h.lt e; have := hk.1; omega⟩)⟩
  have hS2 : ItemsAt (fun k => BNew w.heap.size W4 k ∧ (Value.slice ra q1 rc).ownBlock ≠ some k) W4 (some ⟨W3.heap.size, 0, none⟩) [x] := hS.kept (fun _ _ _ => rfl) (fun k hk _ => by
    rcases hk with hk | rfl
    · exact hk
    · exact ⟨⟨Nat.le_trans hu.size hu3.size, fun i => frozen_of_row _ _ _ _ _ hr4⟩, fun e => by have := h.lt e; have := hu3.size; omega⟩)
  obtain ⟨r', W7, hrun, hv, hg7, hn⟩ := h4.append hu04.size hS2 (fun W' hW' k hk hne hlt => ⟨hk.1, hk.2.keep (hW'.block k hlt (fun e => hne e.symm))⟩) (Nat.le_refl _) (fun e => by cases e) (by simp only [List.length_singleton]; omega) ty
  obtain ⟨ra', rc', rfl, _⟩ := hv.form
  rw [List.length_append, List.length_singleton, hq] at hv hrun
  rw [hW4] at hrun
  have hu7 : ButF g w W7 := hu04.grown hg7 fun k hk => h4.new k hk
  refine ⟨ra', rc', W7, hrun, hv, hu7, hR.kept (hu7.below ?_ hR.new) ?_⟩
  · exact ⟨(hu.trans hu3).os ▸ hR.below.os ▸ rfl, (hu.trans hu3).tape ▸ hR.below.tape ▸ rfl, (hu.trans hu3).output ▸ hR.below.output ▸ rfl, hw, fun k hk => by
      rw [← hR.below.block k hk, (hu.trans hu3).block k (by omega) (by have := hR.new; omega)]⟩
  · rw [hg7.block g (by have := hR.lt; have := hb4.size; omega) (fun e => by have := h4.new g e.symm; omega)]
    exact hb4.block g hR.lt

set_option maxRecDepth 100000 in
set_option maxHeartbeats 1000000 in
theorem takeItems_any (w0 : World) (g : Nat) (st : Option (List UInt8)) (w : World) (h : RdF w0 g st w) : Calls Tryd.prog 69 #[.pointer (some ⟨g, 0, none⟩), .int .i64 40, .func (.func 70) #[.pointer (some ⟨g, 0, none⟩)] #[]] w fun e W => ∃ (ra : Option Addr) (rn rc : Nat), e = .returned (.slice ra rn rc) ∧ ItemsO w.heap.size (BNew w.heap.size) W (.slice ra rn rc) (fragS nameB st).1 ∧ RdF w0 g (fragS nameB st).2 W ∧ ButF g w W := by
  have HN := hide (fNumber_any w0 g 40 st w h)
  have hgw := h.lt
  have HW := hide h.below.size
  clear h
  unfold fragS
  obtain ⟨st1, hst1⟩ : ∃ s, s = (numS 40 st).2 := ⟨_, rfl⟩
  obtain ⟨N0, hN0⟩ : ∃ s, s = (numS 40 st).1 := ⟨_, rfl⟩
  dsimp only
  rw [← hst1, ← hN0] at HN ⊢
  clear hst1 hN0
  go_enter Tryd.func69, Tryd.ntmps69
  go_wp2_with fail
  refine (unhide HN).mono ?_
  rintro e w2 ⟨N, rfl, rfl, hNm, hR2, hU2⟩
  have HR2 := hide hR2
  have HU2 := hide hU2
  clear hR2 hU2 HN
  go_wp2_with fail
  go_loopw [7, 11] (fun v k W => ∃ (j : Nat) (ra : Option Addr) (rc : Nat), j ≤ N ∧ k = .int .i64 ((j : Nat) : Int) ∧ v = .slice ra j rc ∧ ItemsO w.heap.size (BNew w.heap.size) W (.slice ra j rc) (listS (itemS nameB) j st1).1 ∧ RdF w0 g (listS (itemS nameB) j st1).2 W ∧ ButF g w W) (fun _ k _ => N - (intOf k).toNat)
  case atStart => exact ⟨0, none, 0, by omega, rfl, rfl, ItemsO.nil _ _ _, unhide HR2, unhide HU2⟩
  case round =>
    obtain ⟨j, ra, rc, hj, rfl, rfl, hS, hR, hU⟩ := hrel
    have HS := hide hS
    have HU := hide hU
    by_cases hlt : j < N
    · have hji : ((j : Nat) : Int) < ((N : Nat) : Int) := by omega
      have HC := hide (fItem_any w0 g _ _ hR)
      have HLL := hide (listS_len (itemS nameB) j st1)
      clear hS hR hU
      go_wp2_with fail
      refine (unhide HC).mono ?_
      rintro e w3 ⟨z, K, pa, pn, pc, zo, wd, qt, rfl, hx, hR3, hU3⟩
      obtain ⟨ra', rc', W7, hrun, hS7, hU7, hR7⟩ := items_next (unhide HLL) (unhide HS) hgw (unhide HU) hU3 hR3 (unhide HW) hx (by omega) 25
      have HRUN := hide hrun
      have HS7 := hide hS7
      have HU7 := hide hU7
      have HR7 := hide hR7
      clear hx hR3 hU3 hrun hS7 hU7 hR7
      go_wp2_with (at_builtin; refine Lib.wpList_append_run _ rfl _ _ 25 25 rfl _ _ rfl rfl _ _ (unhide HRUN) ?_)
      go_wp2_with fail
      exact ⟨⟨j + 1, ra', rc', by omega, by go_num, rfl, unhide HS7, unhide HR7, unhide HU7⟩, by simp [intOf]; omega⟩
    · have e : j = N := by omega
      have hji : ¬ ((j : Nat) : Int) < ((N : Nat) : Int) := by omega
      have HR := hide hR
      have HE := hide e
      clear hS hR hU e
      go_wp2_with fail
      go_ret
      refine ⟨ra, j, rc, rfl, ?_, ?_, unhide HU⟩
      · rw [← unhide HE]; exact unhide HS
      · rw [← unhide HE]; exact unhide HR

/-- What Take tells, in memory. -/
def TakeFM (w : World) (n : Nat) (bs : List UInt8) (e : Ending) (W : World) : Prop :=
  ∃ (l : List FI) (a : Option Addr) (ln c : Nat) (ra : Option Addr) (rn rc : Nat) (er : Int), e = .returned (.tuple #[.slice a ln c, .slice ra rn rc, .int .i64 er]) ∧ FragAt (fun k => w.heap.size ≤ k) W l (.slice a ln c) ∧ Below w.heap.size w W ∧
    ((er = 0 ∧ ∃ j, j ≤ n ∧ rn + j = n ∧ FReads bs l j ∧ Bytes W (.slice ra rn rc) (bs.drop j)) ∨ (er = 30 ∧ NoFrag bs ∧ l = [] ∧ ln = 0 ∧ rn = 0))

/-- As TakeFM; what is behind reads so in any world ahead in which what came in does; where there is none, it is nil. -/
def TakeFN (b w : World) (n : Nat) (bs : List UInt8) (e : Ending) (W : World) : Prop :=
  ∃ (l : List FI) (a : Option Addr) (ln c : Nat) (ra : Option Addr) (rn rc : Nat) (er : Int), e = .returned (.tuple #[.slice a ln c, .slice ra rn rc, .int .i64 er]) ∧ FragAt (fun k => w.heap.size ≤ k) W l (.slice a ln c) ∧ Below w.heap.size w W ∧
    ((er = 0 ∧ ∃ j, j ≤ n ∧ rn + j = n ∧ FReads bs l j ∧ Bytes b (.slice ra rn rc) (bs.drop j)) ∨ (er = 30 ∧ NoFrag bs ∧ l = [] ∧ ln = 0 ∧ rn = 0 ∧ ra = none ∧ rc = 0))

set_option maxRecDepth 100000 in
set_option maxHeartbeats 1000000 in
theorem fTakeN_any (a : Option Addr) (n c : Nat) (bs : List UInt8) (b w : World) (hbw0 : Below b.heap.size b w) (h : Bytes b (.slice a n c) bs) (hl : n ≤ 1048576) : Calls Tryd.prog 44 #[.slice a n c] w (TakeFN b w n bs) := by
  obtain ⟨hbl, hnc⟩ := bytes_len h
  obtain ⟨W1, hW1⟩ : ∃ W1, W1 = w.alloc (.cells #[.slice a n c, .bool false] 99) := ⟨_, rfl⟩
  have hb1 : Below w.heap.size w W1 := by rw [hW1]; exact (Below.refl _ w).alloc (Nat.le_refl _) _
  have hr1 : W1.heap[w.heap.size]? = some (.cells #[.slice a n c, .bool false] 99 (0, 0)) := by rw [hW1]; exact heap_alloc_new w _
  have HC := hide (takeItems_any b w.heap.size (some bs) W1 ⟨hbw0.trans (hb1.mono hbw0.size), hbw0.size, a, n, c, bs, false, hr1, h, hl, .inl ⟨rfl, rfl⟩⟩)
  have HB1 := hide hb1
  have HW1 := hide hW1
  have HH := hide h
  have HBL := hide hbl
  clear h hb1 hr1 hW1 hbl hnc hl hbw0
  obtain ⟨fs, hfs⟩ : ∃ fs, fs = fragS nameB (some bs) := ⟨_, rfl⟩
  rw [← hfs] at HC
  have HFS := hide hfs
  clear hfs
  go_enter Tryd.func44, Tryd.ntmps44
  go_upto_region 2 with fail
  rw [← unhide HW1]
  clear HW1
  go_wp2_with fail
  refine (unhide HC).mono ?_
  rintro e W2 ⟨ra, rn, rc, rfl, hI, hR, hU⟩
  have hbw : Below w.heap.size w W2 := hU.below (unhide HB1) (Nat.le_refl _)
  obtain ⟨a1, n1, c1, bs1, brk, h3, h4, h5, h6⟩ := hR.is
  obtain ⟨k0, k1, -, -⟩ := cells2F h3
  have HFR : Hid (FragAt (fun k => w.heap.size ≤ k) W2 fs.1 (.slice ra rn rc)) := hI.at (fun k hk => by have := hk.1; have := (unhide HB1).size; omega) (fun k hk _ => by have := hI.new k hk; have := (unhide HB1).size; omega)
  have HB2 := hide hbw
  have HB4 := hide h4
  have H6 := hide h6
  clear hI hR hU hbw h3 h4 h5 h6
  cases brk with
  | true =>
    have HNO : Hid (NoFrag bs) := by
      rcases unhide H6 with ⟨h, _⟩ | ⟨_, h, _⟩
      · cases h
      · exact fragS_no (l := fs.1) (by rw [← unhide HFS, ← h])
    go_wp2_with fail
    go_ret3
    exact ⟨[], none, 0, 0, none, 0, 0, 30, rfl, FragAt.nil _ _, unhide HB2, .inr ⟨rfl, unhide HNO, rfl, rfl, rfl, rfl, rfl⟩⟩
  | false =>
    have HOK : Hid (FReads bs fs.1 (bytesF fs.1).length ∧ bs1 = bs.drop (bytesF fs.1).length) := by
      rcases unhide H6 with ⟨_, h⟩ | ⟨h, _⟩
      · exact fragS_reads (by rw [← unhide HFS, ← h])
      · cases h
    go_upto_region 5 with fail
    go_quiet (fail)
    go_wp2_with fail
    go_ret3
    have hd : ∀ m, Below W2.heap.size W2 (W2.drewN m) := fun m => below_drewN W2 m
    obtain ⟨hf, hb1⟩ := unhide HOK
    have hle := hf.le
    refine ⟨fs.1, ra, rn, rc, a1, n1, c1, 0, rfl, (unhide HFR).later (hd _), (unhide HB2).trans ((hd _).mono (unhide HB2).size), .inl ⟨rfl, _, by have := unhide HBL; omega, ?_, hf, ?_⟩⟩
    · obtain ⟨h1, _⟩ := bytes_len (unhide HB4)
      rw [hb1, List.length_drop] at h1
      have := unhide HBL
      omega
    · rw [← hb1]
      exact unhide HB4

theorem fTake_any (a : Option Addr) (n c : Nat) (bs : List UInt8) (w : World) (h : Bytes w (.slice a n c) bs) (hl : n ≤ 1048576) : Calls Tryd.prog 44 #[.slice a n c] w (TakeFM w n bs) := by
  refine (fTakeN_any a n c bs w w (Below.refl _ _) h hl).mono ?_
  rintro e W ⟨l, fa, ln, fc, ra, rn, rc, er, he, hF, hb, ⟨h1, j, h2, h3, h4, h5⟩ | ⟨h1, h2, h3, h4, h5, _⟩⟩
  · exact ⟨l, fa, ln, fc, ra, rn, rc, er, he, hF, hb, .inl ⟨h1, j, h2, h3, h4, h5.kept fun k _ hk => hb.block k hk⟩⟩
  · exact ⟨l, fa, ln, fc, ra, rn, rc, er, he, hF, hb, .inr ⟨h1, h2, h3, h4, h5⟩⟩

/-- What Parse tells, in memory. -/
def ParseFM (w : World) (bs : List UInt8) (e : Ending) (W : World) : Prop :=
  ∃ (l : List FI) (a : Option Addr) (ln c : Nat) (er : Int), e = .returned (.tuple #[.slice a ln c, .int .i64 er]) ∧ FragAt (fun k => w.heap.size ≤ k) W l (.slice a ln c) ∧ Below w.heap.size w W ∧
    ((er = 0 ∧ FReads bs l bs.length) ∨ (er = 30 ∧ (∀ m, ¬ FReads bs m bs.length) ∧ l = [] ∧ ln = 0))


end Go.Proofs.YtdlbpbglidhlfaaDoor

namespace Go.Proofs.YtdlbpbglidhlfaaDoor
open Go.RowKit


end Go.Proofs.YtdlbpbglidhlfaaDoor

namespace Go.Proofs.YtdlbpbglidhlfaaDoor
open Go.RowKit

theorem infoVal0 : (Tryd.prog.info? 24).map (fun i => (i.size, i.bytes, i.zero.map (·.cells.size))) = some (4, 56, some 4) := by kernel_rfl
theorem infoVal : ∃ i z, Tryd.prog.info? 24 = some i ∧ i.zero = some z ∧ i.size = 4 ∧ i.bytes = 56 ∧ z.cells.size = 4 := by
  have h := infoVal0
  cases hi : Tryd.prog.info? 24 with
  | none => rw [hi] at h; cases h
  | some i =>
    rw [hi] at h
    simp only [Option.map_some, Option.some.injEq, Prod.mk.injEq] at h
    obtain ⟨h1, h2, h3⟩ := h
    cases hz : i.zero with
    | none => rw [hz] at h3; cases h3
    | some z =>
      rw [hz] at h3
      exact ⟨i, z, rfl, hz, h1, h2, by simpa using h3⟩

/-- The i-th struct of cells. -/
def aggAt (xs : List Value) (i : Nat) : Value := .agg #[xs.getD (i * 4) undef, xs.getD (i * 4 + 1) undef, xs.getD (i * 4 + 2) undef, xs.getD (i * 4 + 3) undef]
/-- The slice r, in a block of ours from B0 on, holds the values; their lists lie in other blocks from B0 on. -/
structure ValsO (B0 : Nat) (W : World) (r : Value) (q : List VD) : Prop where
  row : ∃ xs, W.ownsRow 0 24 4 r q.length xs ∧ ∀ i (h : i < q.length), (q[i]'h).At (fun k => B0 ≤ k ∧ r.ownBlock ≠ some k) W (aggAt xs i)
  new : ∀ k, r.ownBlock = some k → B0 ≤ k
theorem ValsO.nil (B0 : Nat) (W : World) : ValsO B0 W (.slice none 0 0) [] := ⟨⟨[], World.ownsRow_nil W 0 _ 4, fun i h => absurd h (Nat.not_lt_zero i)⟩, fun k hk => by cases hk⟩
theorem ownsV_keeps {W W' : World} {e : TypeId} {s : Nat} {v : Value} {n : Nat} {xs : List Value} (h : W.ownsRow 0 e s v n xs) (hk : ∀ k, v.ownBlock = some k → W'.heap[k]? = W.heap[k]?) : W'.ownsRow 0 e s v n xs := by
  refine ⟨h.1, ?_⟩
  rcases h.2 with hn | ⟨g, cap, cur, hv, hb0, hg, rest⟩
  · exact .inl hn
  · exact .inr ⟨g, cap, cur, hv, hb0, (hk g (by rw [hv]; rfl)).trans hg, rest⟩
theorem ValsO.later {B0 : Nat} {W W' : World} {r : Value} {q : List VD} (h : ValsO B0 W r q) (hb : Below W.heap.size W W') : ValsO B0 W' r q := by
  obtain ⟨⟨xs, h1, h2⟩, h3⟩ := h
  exact ⟨⟨xs, ownsV_keeps h1 fun k hk => hb.block k (h1.lt k hk).2, fun i hi => (h2 i hi).later hb⟩, h3⟩
/-- A store elsewhere. -/
theorem ValsO.set {B0 : Nat} {W : World} {r : Value} {q : List VD} (h : ValsO B0 W r q) {p : Addr} (hp : p.block < B0) (v : Value) : ValsO B0 (W.setCell p v) r q := by
  obtain ⟨⟨xs, h1, h2⟩, h3⟩ := h
  refine ⟨⟨xs, ownsV_keeps h1 fun k hk => Below.heap_setCell _ _ _ _ (by have := h3 k hk; omega), fun i hi => (h2 i hi).kept (fun k hk _ => Below.heap_setCell _ _ _ _ (by have := hk.1; omega)) (fun _ h _ => h)⟩, h3⟩
/-- What such a row reads as. -/
theorem ValsO.at {B0 : Nat} {W : World} {r : Value} {q : List VD} (h : ValsO B0 W r q) {k : Nat} {n : Int} {s : List UInt8} (hk : k < 256) (hn : InR n) (hs : s.length ≤ maxLen) : (VD.mk k n s q).At (fun b => B0 ≤ b) W (.agg #[.int .u8 ((k : Nat) : Int), .int .i64 n, .string ⟨s.toArray⟩, r]) := by
  obtain ⟨⟨xs, h1, h2⟩, h3⟩ := h
  rw [VD.at_iff]
  rcases h1.2 with ⟨e, e0⟩ | ⟨g, cap, cur, e, _, hg, hc, hm, hcs, htk⟩
  · subst e
    have : q = [] := List.eq_nil_of_length_eq_zero e0
    subst this
    exact ⟨none, 0, rfl, hk, hn, hs, Nat.le_refl _, Nat.zero_le _, fun j hj => absurd hj (Nat.not_lt_zero j)⟩
  · subst e
    have hxl : xs.length = q.length * 4 := h1.1
    refine ⟨some ⟨g, 0, none⟩, cap, rfl, hk, hn, hs, hc, hm, fun j hj => ?_⟩
    have hj : j < q.length := hj
    have hcell : ∀ p, p < q.length * 4 → W.cell? ⟨g, 0 + p, none⟩ = some (xs.getD p undef) := fun p hp => by
      have h5 := h1.cells (g := g) rfl p (xs.getD p undef) (by rw [List.getD_eq_getElem?_getD, List.getElem?_eq_getElem (by omega)]; rfl)
      rw [Addr.add_mid] at h5
      exact h5
    refine ⟨g, 0, _, _, _, _, rfl, h3 g rfl, hcell (j * 4) (by omega), ?_, ?_, ?_, (h2 j hj).wider fun b hb => hb.1⟩
    · have := hcell (j * 4 + 1) (by omega); rwa [show 0 + (j * 4 + 1) = 0 + j * 4 + 1 by omega] at this
    · have := hcell (j * 4 + 2) (by omega); rwa [show 0 + (j * 4 + 2) = 0 + j * 4 + 2 by omega] at this
    · have := hcell (j * 4 + 3) (by omega); rwa [show 0 + (j * 4 + 3) = 0 + j * 4 + 3 by omega] at this
theorem ValsO.form {B0 : Nat} {W : World} {r : Value} {q : List VD} (h : ValsO B0 W r q) : ∃ a c, r = .slice a q.length c ∧ q.length ≤ c := by
  obtain ⟨⟨xs, h1, h2⟩, h3⟩ := h
  rcases h1.2 with ⟨e, e0⟩ | ⟨g, cap, cur, e, _, hg, hc, _⟩
  · exact ⟨none, 0, by rw [e, e0], by omega⟩
  · exact ⟨_, cap, e, hc⟩

/-- append of one value: the row goes on in its block, or in a new one. -/
theorem ValsO.append {B0 : Nat} {W : World} {r : Value} {q : List VD} (h : ValsO B0 W r q) (hB : B0 ≤ W.heap.size) {x : VD} {e0 e1 e2 e3 : Value} (hx : x.At (fun k => B0 ≤ k ∧ r.ownBlock ≠ some k) W (.agg #[e0, e1, e2, e3])) {ad : Addr} {c : Nat}
    (d0 : W.cell? (ad.add 0) = some e0) (d1 : W.cell? (ad.add 1) = some e1) (d2 : W.cell? (ad.add 2) = some e2) (d3 : W.cell? (ad.add 3) = some e3) (hl : q.length ≤ 1048576) (ty : TypeId) :
    ∃ r' W', (Builtin.append_ #[22, 22] ty #[r, .slice (some ad) 1 c]).run Tryd.prog W = .ok r' W' ∧ ValsO B0 W' r' (q ++ [x]) ∧ W.grownBy W' r.ownBlock := by
  obtain ⟨i, z, hi, hz, hs, hb, hzs⟩ := infoVal
  obtain ⟨⟨xs, h1, h2⟩, h3⟩ := h
  have hxl : xs.length = q.length * 4 := h1.1
  have hone : ∀ u ∈ [e0, e1, e2, e3], u.oneCell' = true := by
    rw [VD.at_iff] at hx
    obtain ⟨a, c', h, _⟩ := hx
    simp only [Value.agg.injEq] at h
    have h := congrArg Array.toList h
    simp only [List.cons.injEq, and_true] at h
    obtain ⟨rfl, rfl, rfl, rfl⟩ := h
    intro u hu
    simp only [List.mem_cons, List.mem_nil_iff, or_false] at hu
    rcases hu with rfl | rfl | rfl | rfl <;> rfl
  have hcells : ∀ j u, [e0, e1, e2, e3][j]? = some u → W.cell? (ad.add j) = some u := fun j u hj => by
    match j, hj with
    | 0, hj => cases hj; exact d0
    | 1, hj => cases hj; exact d1
    | 2, hj => cases hj; exact d2
    | 3, hj => cases hj; exact d3
  have fin : ∀ r' W', W'.ownsRow 0 24 4 r' (q.length + 1) (xs ++ [e0, e1, e2, e3]) → W.grownBy W' r.ownBlock → (r'.ownBlock = r.ownBlock ∨ ∃ k, r'.ownBlock = some k ∧ W.heap.size ≤ k) → ValsO B0 W' r' (q ++ [x]) := fun r' W' g1 g2 g3 => by
    have kept : ∀ {y : VD} {u : Value}, y.At (fun k => B0 ≤ k ∧ r.ownBlock ≠ some k) W u → y.At (fun k => B0 ≤ k ∧ r'.ownBlock ≠ some k) W' u := fun hy =>
      hy.kept (fun k hk hlt => g2.block k hlt (fun e => hk.2 e.symm)) (fun k hk hlt => ⟨hk.1, fun e => by
        rcases g3 with e2 | ⟨k', e2, hle⟩
        · rw [e2] at e; exact hk.2 e
        · rw [e2] at e; cases e; omega⟩)
    refine ⟨⟨xs ++ [e0, e1, e2, e3], by rw [List.length_append, List.length_singleton]; exact g1, fun i hi => ?_⟩, fun k hk => ?_⟩
    · rw [List.length_append, List.length_singleton] at hi
      by_cases hlt : i < q.length
      · rw [List.getElem_append_left hlt]
        have ge : ∀ p, p < q.length * 4 → (xs ++ [e0, e1, e2, e3]).getD p undef = xs.getD p undef := fun p hp => by
          rw [List.getD_eq_getElem?_getD, List.getD_eq_getElem?_getD, List.getElem?_append_left (by omega)]
        have e : aggAt (xs ++ [e0, e1, e2, e3]) i = aggAt xs i := by unfold aggAt; rw [ge _ (by omega), ge _ (by omega), ge _ (by omega), ge _ (by omega)]
        rw [e]
        exact kept (h2 i hlt)
      · have hi' : i = q.length := by omega
        subst hi'
        rw [List.getElem_append_right (Nat.le_refl _)]
        have ge : ∀ p, p < 4 → (xs ++ [e0, e1, e2, e3]).getD (q.length * 4 + p) undef = [e0, e1, e2, e3].getD p undef := fun p hp => by
          rw [List.getD_eq_getElem?_getD, List.getD_eq_getElem?_getD, List.getElem?_append_right (by omega), hxl, Nat.add_sub_cancel_left]
        have e : aggAt (xs ++ [e0, e1, e2, e3]) q.length = .agg #[e0, e1, e2, e3] := by
          unfold aggAt
          have z0 := ge 0 (by omega)
          rw [Nat.add_zero] at z0
          rw [z0, ge 1 (by omega), ge 2 (by omega), ge 3 (by omega)]
          rfl
        rw [e]
        simpa using kept hx
    · rcases g3 with e2 | ⟨k', e2, hle⟩
      · rw [e2] at hk; exact h3 k hk
      · rw [e2] at hk; cases hk; omega
  rcases h1.2 with ⟨rfl, hn⟩ | ⟨g, cap, cur, rfl, _, hg, hnc, hcm, hcs, htk⟩
  · have hxn : xs = [] := List.eq_nil_of_length_eq_zero (by omega)
    subst hxn
    obtain ⟨r', W', hrun, r1, r2, _⟩ := run_append_own (P := Tryd.prog) W W.heap.size 22 ty 24 i z 4 56 Tryd.underlying22 hi hz hs hb hzs (by decide) (.slice none 0 0) 0 [] (World.ownsRow_nil W _ _ 4) ad 1 c [e0, e1, e2, e3] rfl hcells hone (by unfold maxLen; omega) (by omega) (Nat.le_refl _)
    refine ⟨r', W', hrun, fin r' W' ?_ r2 ?_, r2⟩
    · rw [hn]
      refine ⟨r1.1, ?_⟩
      rcases r1.2 with ⟨a, b⟩ | ⟨g, cap, cur, a, b, rest⟩
      · exact .inl ⟨a, b⟩
      · exact .inr ⟨g, cap, cur, a, Nat.zero_le _, rest⟩
    · rcases r1.2 with ⟨a, b⟩ | ⟨g, cap, cur, a, b, rest⟩
      · omega
      · exact .inr ⟨g, by rw [a]; rfl, b⟩
  · by_cases hroom : q.length + 1 ≤ cap
    · obtain ⟨W', hrun, r1, r2⟩ := run_append_fits (P := Tryd.prog) W 0 22 ty 24 i 4 Tryd.underlying22 hi hs g q.length cap xs h1 ad 1 c [e0, e1, e2, e3] rfl hcells hone hroom
      exact ⟨_, W', hrun, fin _ W' r1 r2 (.inl rfl), r2⟩
    · have hold : ∀ j u, xs[j]? = some u → W.cell? ((⟨g, 0, none⟩ : Addr).add j) = some u := h1.cells (g := g) rfl
      obtain ⟨r', W', hrun, r1, r2⟩ := run_append_arg_grows (P := Tryd.prog) W 22 ty 24 i z 4 56 Tryd.underlying22 hi hz hs hb hzs (by decide) ⟨g, 0, none⟩ q.length cap xs hxl hold ad 1 c [e0, e1, e2, e3] rfl hcells (by omega) (by unfold maxLen; omega) (by omega)
      have r3 : W.grownBy W' (some g) := ⟨r2.os, r2.tape, r2.output, r2.size, fun k hk _ => r2.block k hk (by simp)⟩
      refine ⟨r', W', hrun, fin r' W' ?_ r3 ?_, r3⟩
      · refine ⟨r1.1, ?_⟩
        rcases r1.2 with ⟨a, b⟩ | ⟨g', cap', cur', a, b, rest⟩
        · exact .inl ⟨a, b⟩
        · exact .inr ⟨g', cap', cur', a, Nat.zero_le _, rest⟩
      · rcases r1.2 with ⟨a, b⟩ | ⟨g', cap', cur', a, b, rest⟩
        · omega
        · exact .inr ⟨g', by rw [a]; rfl, b⟩
end Go.Proofs.YtdlbpbglidhlfaaDoor

namespace Go.Proofs.YtdlbpbglidhlfaaDoor
open Go.RowKit


end Go.Proofs.YtdlbpbglidhlfaaDoor

namespace Go.Proofs.YtdlbpbglidhlfaaDoor
open Go.RowKit

/-- What the document's TakeNum tells of bytes. -/
def RefNum (bs : List UInt8) (e : Ending) : Prop :=
  (∃ (x : Int) (k : Nat), Reads bs x k ∧ e = .returned (.tuple #[.int .i64 x, .int .i64 ((k : Nat) : Int)])) ∨ (NoNum bs ∧ e = .returned (.tuple #[.int .i64 0, .int .i64 0]))

theorem pow128_le {j : Nat} (h : j ≤ 9) : 128 ^ j ≤ 9223372036854775808 := by
  have h1 := Nat.pow_le_pow_right (n := 128) (by omega) h
  have h2 : (128 ^ 9 : Nat) = 9223372036854775808 := by decide
  omega


end Go.Proofs.YtdlbpbglidhlfaaDoor

namespace Go.Proofs.YtdlbpbglidhlfaaDoor
open Go.RowKit

/-- What the document's TakeText tells of bytes. -/
def RefText (bs : List UInt8) (most : Int) (e : Ending) : Prop :=
  (∃ (s : List UInt8) (k : Nat), ReadsT bs most s k ∧ e = .returned (.tuple #[.string ⟨s.toArray⟩, .int .i64 ((k + s.length : Nat) : Int), .bool true])) ∨
  (NoText bs most ∧ e = .returned (.tuple #[.string ⟨#[]⟩, .int .i64 0, .bool false]))


end Go.Proofs.YtdlbpbglidhlfaaDoor

namespace Go.Proofs.YtdlbpbglidhlfaaDoor
open Go.RowKit Go.Lib

theorem Bytes.laterW3 {w w' : World} {u : Value} {bs : List UInt8} (h : Bytes w u bs) (hb : Below w.heap.size w w') : Bytes w' u bs := h.kept fun k _ hk => hb.block k hk
def zeroV : Value := .agg #[.int .u8 0, .int .i64 0, .string ⟨#[]⟩, .slice none 0 0]
/-- What read tells of bytes. -/
def TookV (w : World) (bs : List UInt8) (d : Nat) (e : Ending) (w' : World) : Prop :=
  (∃ v j u, VReads bs d v j ∧ e = .returned (.tuple #[u, .int .i64 ((j : Nat) : Int)]) ∧ v.At (fun k => w.heap.size ≤ k) w' u) ∨ (NoVal bs d ∧ e = .returned (.tuple #[zeroV, .int .i64 0]))

theorem results_ctv {P : Program} {fn : Func} {p u : Tmp} {ty : TypeId} (h : fn.results = #[.cell p ty, .tmp u]) (tmps : Array Value) (w : World) (g : Nat) (t : TypeId) (cs : Array Value) (fr : Nat × Nat) (d : TypeDesc)
    (hp : tmps.getD p undef = .pointer (some ⟨g, 0, none⟩)) (hg : w.heap[g]? = some (.cells cs t fr))
    (hu : P.underlying ty = some d) (hd : (match d with | .struct _ | .array _ _ => true | _ => false) = true) (hi : (P.info? ty).map (·.size) = some cs.size) :
    (results fn tmps).run P w = .ok (.tuple #[.agg cs, tmps.getD u undef]) w := by
  have hp' : tmps[p]?.getD undef = .pointer (some ⟨g, 0, none⟩) := by simpa using hp
  simp only [results, h]
  simp [Result.andThen, hp', asAddr, run_loadVar_row w g t ty cs fr d hg hu hd hi]
theorem set4_heap {W : World} {g : Nat} {v0 v1 v2 v3 : Value} {t : TypeId} (h : W.heap[g]? = some (.cells #[v0, v1, v2, v3] t (0, 0))) (x y z u : Value) : ((((W.setCell ⟨g, 0, none⟩ x).setCell ⟨g, 1, none⟩ y).setCell ⟨g, 2, none⟩ z).setCell ⟨g, 3, none⟩ u).heap[g]? = some (.cells #[x, y, z, u] t (0, 0)) := by
  rw [heap_setCell_same _ _ _ _ _ _ (heap_setCell_same _ _ _ _ _ _ (heap_setCell_same _ _ _ _ _ _ (heap_setCell_same _ _ _ _ _ _ h)))]; rfl
theorem set4_below {B : Nat} {w W : World} {g : Nat} (h : Below B w W) (hg : B ≤ g) (x y z u : Value) : Below B w ((((W.setCell ⟨g, 0, none⟩ x).setCell ⟨g, 1, none⟩ y).setCell ⟨g, 2, none⟩ z).setCell ⟨g, 3, none⟩ u) :=
  (((h.setCell (p := ⟨g, 0, none⟩) hg x).setCell (p := ⟨g, 1, none⟩) hg y).setCell (p := ⟨g, 2, none⟩) hg z).setCell (p := ⟨g, 3, none⟩) hg u

/-- A struct's block, for the walk. -/
theorem cells4 {W : World} {g : Nat} {v0 v1 v2 v3 : Value} {t : TypeId} (h : W.heap[g]? = some (.cells #[v0, v1, v2, v3] t (0, 0))) : (W.cell? ⟨g, 0, none⟩ = some v0 ∧ W.cell? ⟨g, 1, none⟩ = some v1 ∧ W.cell? ⟨g, 2, none⟩ = some v2 ∧ W.cell? ⟨g, 3, none⟩ = some v3) ∧ (W.frozen? ⟨g, 0, none⟩ = false ∧ W.frozen? ⟨g, 1, none⟩ = false ∧ W.frozen? ⟨g, 2, none⟩ = false ∧ W.frozen? ⟨g, 3, none⟩ = false) :=
  ⟨⟨cell_of_row _ _ 0 _ _ _ h, cell_of_row _ _ 1 _ _ _ h, cell_of_row _ _ 2 _ _ _ h, cell_of_row _ _ 3 _ _ _ h⟩, frozen_of_row _ _ _ _ _ h, frozen_of_row _ _ _ _ _ h, frozen_of_row _ _ _ _ _ h, frozen_of_row _ _ _ _ _ h⟩

/-- The answer of no value, at the return. -/
theorem took_no {w W : World} {bs : List UInt8} {d : Nat} {x y z u : Value} (hN : NoVal bs d) (hb : Below w.heap.size w W) (hx : Value.agg #[x, y, z, u] = zeroV) : TookV w bs d (.returned (.tuple #[.agg #[x, y, z, u], .int .i64 0])) ((((W.setCell ⟨w.heap.size, 0, none⟩ x).setCell ⟨w.heap.size, 1, none⟩ y).setCell ⟨w.heap.size, 2, none⟩ z).setCell ⟨w.heap.size, 3, none⟩ u) ∧ Below w.heap.size w ((((W.setCell ⟨w.heap.size, 0, none⟩ x).setCell ⟨w.heap.size, 1, none⟩ y).setCell ⟨w.heap.size, 2, none⟩ z).setCell ⟨w.heap.size, 3, none⟩ u) :=
  ⟨.inr ⟨hN, by rw [hx]⟩, set4_below hb (Nat.le_refl _) _ _ _ _⟩

theorem lt_rowV {W : World} {k : Nat} {o : Obj} (h : W.heap[k]? = some o) : k < W.heap.size := by
  rcases Nat.lt_or_ge k W.heap.size with h1 | h1
  · exact h1
  · rw [Array.getElem?_eq_none h1] at h; cases h
/-- The value under way, in a second block. -/
theorem second {w w1 : World} {k : Value} (h1 : Below w.heap.size w w1) (h4 : w1.heap[w.heap.size]? = some (.cells #[.int .u8 0, .int .i64 0, .string ⟨#[]⟩, .slice none 0 0] 24 (0, 0))) {W : World} (hW : W = w1.alloc (.cells #[k, .int .i64 0, .string ⟨#[]⟩, .slice none 0 0] 24)) : Below w1.heap.size w1 W ∧ Below w.heap.size w W ∧ W.heap[w.heap.size]? = some (.cells #[.int .u8 0, .int .i64 0, .string ⟨#[]⟩, .slice none 0 0] 24 (0, 0)) ∧ W.heap[w1.heap.size]? = some (.cells #[k, .int .i64 0, .string ⟨#[]⟩, .slice none 0 0] 24 (0, 0)) := by
  have hb : Below w1.heap.size w1 W := by rw [hW]; exact (Below.refl _ w1).alloc (Nat.le_refl _) _
  refine ⟨hb, ?_, ?_, ?_⟩
  · rw [hW]; exact h1.alloc h1.size _
  · rw [hb.block _ (lt_rowV h4)]; exact h4
  · rw [hW]; exact heap_alloc_new w1 _

/-- A store into the value under way. -/
theorem second_set {B g g8 : Nat} {w W W' : World} {r0 r1 : Array Value} {t t' : TypeId} (hb : Below B w W) (h4 : W.heap[g]? = some (.cells r0 t (0, 0))) (h8 : W.heap[g8]? = some (.cells r1 t' (0, 0))) (hB : B ≤ g8) (hne : g ≠ g8) (i : Nat) (x : Value) (hW : W' = W.setCell ⟨g8, i, none⟩ x) : Below B w W' ∧ W'.heap[g]? = some (.cells r0 t (0, 0)) ∧ W'.heap[g8]? = some (.cells (r1.setIfInBounds i x) t' (0, 0)) := by
  refine ⟨?_, ?_, ?_⟩
  · rw [hW]; exact hb.setCell (p := ⟨g8, i, none⟩) hB x
  · rw [hW, Below.heap_setCell _ _ _ _ hne]; exact h4
  · rw [hW]; exact heap_setCell_same _ _ _ _ _ _ h8

theorem VReads.pos {b : List UInt8} {d : Nat} {v : VD} {j : Nat} (h : VReads b d v j) : 0 < j := by
  have hp := h.kind.1.pos
  rw [h.len]
  rcases VD.kinds_cases h.kinds with ⟨n, rfl⟩ | ⟨s, rfl, _⟩ | ⟨l, rfl, _⟩
  · have e : VD.bytes (.mk 0 n [] []) = numB ((0 : Nat) : Int) ++ numB n := rfl
    rw [e, List.length_append]; have := numB_pos ((0 : Nat) : Int); omega
  · have e : VD.bytes (.mk 1 0 s []) = numB ((1 : Nat) : Int) ++ textB s := rfl
    rw [e, List.length_append]; have := numB_pos ((1 : Nat) : Int); omega
  · have e : VD.bytes (.mk 2 0 [] l) = numB ((2 : Nat) : Int) ++ (numB ((l.length : Nat) : Int) ++ VD.bytesL l) := rfl
    rw [e, List.length_append]; have := numB_pos ((2 : Nat) : Int); omega
/-- The list under way: the struct in the block g8, its row behind it. -/
structure LoopV (w : World) (g8 B0 : Nat) (r : Value) (q : List VD) (W : World) : Prop where
  below : Below w.heap.size w W
  size : B0 ≤ W.heap.size
  c4 : W.heap[w.heap.size]? = some (.cells #[.int .u8 0, .int .i64 0, .string ⟨#[]⟩, .slice none 0 0] 24 (0, 0))
  c8 : W.heap[g8]? = some (.cells #[.int .u8 2, .int .i64 0, .string ⟨#[]⟩, r] 24 (0, 0))
  vals : ValsO B0 W r q
theorem LoopV.later {w W W' : World} {g8 B0 : Nat} {r : Value} {q : List VD} (h : LoopV w g8 B0 r q W) (hb : Below W.heap.size W W') : LoopV w g8 B0 r q W' :=
  ⟨h.below.trans (hb.mono h.below.size), Nat.le_trans h.size hb.size, by rw [hb.block _ (lt_rowV h.c4)]; exact h.c4, by rw [hb.block _ (lt_rowV h.c8)]; exact h.c8, h.vals.later hb⟩
theorem LoopV.append {w W : World} {g8 B0 : Nat} {r : Value} {q : List VD} (h : LoopV w g8 B0 r q W) (h0 : w.heap.size < g8) (h1 : g8 < B0) {x : VD} {e0 e1 e2 e3 : Value} (hx : x.At (fun k => B0 ≤ k ∧ r.ownBlock ≠ some k) W (.agg #[e0, e1, e2, e3])) {ad : Addr} {c : Nat}
    (d0 : W.cell? (ad.add 0) = some e0) (d1 : W.cell? (ad.add 1) = some e1) (d2 : W.cell? (ad.add 2) = some e2) (d3 : W.cell? (ad.add 3) = some e3) (hl : q.length ≤ 1048576) (ty : TypeId) :
    ∃ r' W', (Builtin.append_ #[22, 22] ty #[r, .slice (some ad) 1 c]).run Tryd.prog W = .ok r' W' ∧ W'.heap[g8]? = some (.cells #[.int .u8 2, .int .i64 0, .string ⟨#[]⟩, r] 24 (0, 0)) ∧ LoopV w g8 B0 r' (q ++ [x]) (W'.setCell ⟨g8, 3, none⟩ r') := by
  obtain ⟨r', W', hrun, hv, hg⟩ := h.vals.append h.size hx d0 d1 d2 d3 hl ty
  have blk : ∀ k, k < B0 → W'.heap[k]? = W.heap[k]? := fun k hk => hg.block k (Nat.lt_of_lt_of_le hk h.size) fun e => by
    have := h.vals.new k (by rw [← e])
    omega
  have k8 : W'.heap[g8]? = some (.cells #[.int .u8 2, .int .i64 0, .string ⟨#[]⟩, r] 24 (0, 0)) := by rw [blk g8 h1]; exact h.c8
  have hb : Below w.heap.size w W' := h.below.trans ⟨hg.os, hg.tape, hg.output, hg.size, fun k hk => blk k (by omega)⟩
  have hsz : (W'.setCell ⟨g8, 3, none⟩ r').heap.size = W'.heap.size := World.size_setCell _ _ _
  refine ⟨r', W', hrun, k8, hb.setCell (p := ⟨g8, 3, none⟩) (by show w.heap.size ≤ g8; omega) r', ?_, ?_, ?_, hv.set (p := ⟨g8, 3, none⟩) h1 r'⟩
  · rw [hsz]; exact Nat.le_trans h.size hg.size
  · rw [Below.heap_setCell _ _ _ _ (by show w.heap.size ≠ g8; omega), blk _ (by omega)]; exact h.c4
  · exact heap_setCell_same _ _ _ _ _ _ k8


end Go.Proofs.YtdlbpbglidhlfaaDoor

namespace Go.Proofs.YtdlbpbglidhlfaaDoor
open Go.RowKit

/-- What a reader leaves by. -/
def left30 : List PanicEntry := [{ v := .iface 31 (.int .i64 30), recovered := false }]
theorem need_any (so : Bool) (w : World) : Calls Tryd.prog 87 #[.bool so] w fun e w' => e = (if so then .returned (.tuple #[]) else .panicked left30) ∧ w' = w := by
  cases so with
  | true =>
    go_enter Tryd.func87, Tryd.ntmps87
    go_wp2
    go_end0
    exact ⟨rfl, rfl⟩
  | false =>
    go_enter Tryd.func87, Tryd.ntmps87
    go_wp2
    exact ⟨rfl, rfl, rfl⟩

/-- But for the block g, and new ones, the world is as it was. -/
structure But (g : Nat) (W W' : World) : Prop where
  os : W'.os = W.os
  tape : W'.tape = W.tape
  output : W'.output = W.output
  size : W.heap.size ≤ W'.heap.size
  block : ∀ k, k < W.heap.size → k ≠ g → W'.heap[k]? = W.heap[k]?
theorem But.of {g : Nat} {W W' : World} (h : Below W.heap.size W W') : But g W W' := ⟨h.os, h.tape, h.output, h.size, fun k hk _ => h.block k hk⟩
theorem But.trans {g : Nat} {W W' W'' : World} (h : But g W W') (h' : But g W' W'') : But g W W'' :=
  ⟨h'.os.trans h.os, h'.tape.trans h.tape, h'.output.trans h.output, Nat.le_trans h.size h'.size, fun k hk hn => (h'.block k (Nat.lt_of_lt_of_le hk h.size) hn).trans (h.block k hk hn)⟩
theorem But.set {g : Nat} {W W' : World} (h : But g W W') (o : Nat) (v : Value) : But g W (W'.setCell ⟨g, o, none⟩ v) := by
  have b := (Below.refl 0 W').setCell (p := ⟨g, o, none⟩) (Nat.zero_le _) v
  exact ⟨b.os.trans h.os, b.tape.trans h.tape, b.output.trans h.output, by rw [World.size_setCell]; exact h.size, fun k hk hn => (Below.heap_setCell _ _ _ _ hn).trans (h.block k hk hn)⟩
theorem But.below {g : Nat} {w0 W W' : World} (h : But g W W') (hb : Below w0.heap.size w0 W) (hg : w0.heap.size ≤ g) : Below w0.heap.size w0 W' :=
  ⟨h.os.trans hb.os, h.tape.trans hb.tape, h.output.trans hb.output, Nat.le_trans hb.size h.size, fun k hk => (h.block k (Nat.lt_of_lt_of_le hk hb.size) (by omega)).trans (hb.block k hk)⟩

/-- A reader in the block g: what is left, in the world w0, and how many parts there were. -/
structure Rdr (w0 : World) (g : Nat) (a : Option Addr) (n c p : Nat) (bs : List UInt8) (W : World) : Prop where
  below : Below w0.heap.size w0 W
  new : w0.heap.size ≤ g
  blk : W.heap[g]? = some (.cells #[.slice a n c, .int .i64 ((p : Nat) : Int)] 95 (0, 0))
  bytes : Bytes w0 (.slice a n c) bs
  len : n ≤ 1048576
theorem Rdr.later {w0 W W' : World} {g n c p : Nat} {a : Option Addr} {bs : List UInt8} (h : Rdr w0 g a n c p bs W) (hb : Below W.heap.size W W') : Rdr w0 g a n c p bs W' :=
  ⟨h.below.trans (hb.mono h.below.size), h.new, (hb.block _ (lt_rowV h.blk)).trans h.blk, h.bytes, h.len⟩
theorem Rdr.at {w0 W : World} {g n c p : Nat} {a : Option Addr} {bs : List UInt8} (h : Rdr w0 g a n c p bs W) : Bytes W (.slice a n c) bs := h.bytes.kept fun k _ hk => h.below.block k hk
theorem Rdr.cells {w0 W : World} {g n c p : Nat} {a : Option Addr} {bs : List UInt8} (h : Rdr w0 g a n c p bs W) : W.cell? ⟨g, 0, none⟩ = some (.slice a n c) ∧ W.cell? ⟨g, 1, none⟩ = some (.int .i64 ((p : Nat) : Int)) ∧ W.frozen? ⟨g, 0, none⟩ = false ∧ W.frozen? ⟨g, 1, none⟩ = false :=
  ⟨cell_of_row _ _ 0 _ _ _ h.blk, cell_of_row _ _ 1 _ _ _ h.blk, frozen_of_row _ _ _ _ _ h.blk, frozen_of_row _ _ _ _ _ h.blk⟩
/-- What is left behind k bytes. -/
theorem Rdr.cut {w0 W : World} {g n c p k : Nat} {a : Option Addr} {bs : List UInt8} (h : Rdr w0 g a n c p bs W) (hk : k ≤ n) : Rdr w0 g (wcutA a n k) (n - k) (n - k) p (bs.drop k) (W.setCell ⟨g, 0, none⟩ (.slice (wcutA a n k) (n - k) (n - k))) :=
  ⟨h.below.setCell (p := ⟨g, 0, none⟩) h.new _, h.new, heap_setCell_same _ _ _ _ _ _ h.blk, h.bytes.cut hk, by have := h.len; omega⟩

theorem Rdr.cut2 {w0 W : World} {g n c p k m : Nat} {a : Option Addr} {bs : List UInt8} (h : Rdr w0 g a n c p bs W) (hk : k + m ≤ n) : Rdr w0 g (wcutA (wcutA a n k) (n - k) m) (n - k - m) (n - k - m) p (bs.drop (k + m)) (W.setCell ⟨g, 0, none⟩ (.slice (wcutA (wcutA a n k) (n - k) m) (n - k - m) (n - k - m))) :=
  ⟨h.below.setCell (p := ⟨g, 0, none⟩) h.new _, h.new, heap_setCell_same _ _ _ _ _ _ h.blk, by rw [← List.drop_drop]; exact (h.bytes.cut (by omega)).cut (by omega), by have := h.len; omega⟩

set_option maxRecDepth 100000 in
set_option maxHeartbeats 1000000 in
theorem rNumber_any (w0 : World) (g n c p : Nat) (a : Option Addr) (bs : List UInt8) (w : World) (h : Rdr w0 g a n c p bs w) : Calls Tryd.prog 88 #[.pointer (some ⟨g, 0, none⟩)] w fun e W => But g w W ∧
    ((∃ (x : Int) (k : Nat), Reads bs x k ∧ e = .returned (.int .i64 x) ∧ Rdr w0 g (wcutA a n k) (n - k) (n - k) p (bs.drop k) W) ∨ (NoNum bs ∧ e = .panicked left30)) := by
  obtain ⟨c0, c1, f0, f1⟩ := h.cells
  have HR := hide h
  clear h
  go_enter Tryd.func88, Tryd.ntmps88
  go_wp2_with fail
  refine (takeNum_any a n c bs _ (unhide HR).at (unhide HR).len).mono ?_
  rintro e w1 ⟨ht, hb1⟩
  have HR1 := hide ((unhide HR).later hb1)
  have HU1 : Hid (But g w w1) := But.of hb1
  clear hb1 c0 c1 f0 f1
  obtain ⟨c0, c1, f0, f1⟩ := (unhide HR1).cells
  rcases ht with ⟨x, k, hr, rfl⟩ | ⟨hNo, rfl⟩
  · have hkn : k ≤ n := by have h1 := hr.le; obtain ⟨hbl, -⟩ := bytes_len (unhide HR).bytes; omega
    have HRD := hide hr
    have HR2 := hide ((unhide HR1).cut hkn)
    have HU2 := hide ((unhide HU1).set 0 (.slice (wcutA a n k) (n - k) (n - k)))
    clear hr hkn
    go_wp2_with fail
    refine (need_any true _).mono ?_
    rintro e w2 ⟨rfl, hw⟩
    rw [hw]
    clear hw w2
    go_wp2_with fail
    go_ret
    exact ⟨unhide HU2, .inl ⟨x, k, unhide HRD, rfl, unhide HR2⟩⟩
  · have HNO := hide hNo
    clear hNo
    go_wp2_with fail
    refine (need_any false _).mono ?_
    rintro e w2 ⟨rfl, hw⟩
    rw [hw]
    clear hw w2
    exact ⟨rfl, unhide HU1, .inr ⟨unhide HNO, rfl⟩⟩

set_option maxRecDepth 100000 in
set_option maxHeartbeats 1000000 in
theorem rText_any (w0 : World) (g n c p : Nat) (a : Option Addr) (bs : List UInt8) (w : World) (h : Rdr w0 g a n c p bs w) : Calls Tryd.prog 89 #[.pointer (some ⟨g, 0, none⟩)] w fun e W => But g w W ∧
    ((∃ (s : List UInt8) (k : Nat) (a' : Option Addr) (n' : Nat), ReadsT bs 100 s k ∧ n' = n - k - s.length ∧ e = .returned (.string ⟨s.toArray⟩) ∧ Rdr w0 g a' n' n' p (bs.drop (k + s.length)) W) ∨ (NoText bs 100 ∧ e = .panicked left30)) := by
  obtain ⟨c0, c1, f0, f1⟩ := h.cells
  have HR := hide h
  clear h
  go_enter Tryd.func89, Tryd.ntmps89
  go_wp2_with fail
  refine (takeText_any a n c bs 100 _ (unhide HR).at (unhide HR).len (by unfold InR; omega)).mono ?_
  rintro e w1 ⟨ht, hb1⟩
  have HR1 := hide ((unhide HR).later hb1)
  have HU1 : Hid (But g w w1) := But.of hb1
  clear hb1 c0 c1 f0 f1
  obtain ⟨c0, c1, f0, f1⟩ := (unhide HR1).cells
  rcases ht with ⟨s, k, hr, rfl⟩ | ⟨hNo, rfl⟩
  · have hkn : k + s.length ≤ n := by have h1 := hr.le; obtain ⟨hbl, -⟩ := bytes_len (unhide HR).bytes; omega
    have HRD := hide hr
    obtain ⟨a', ha'⟩ : ∃ a', a' = wcutA (wcutA a n k) (n - k) s.length := ⟨_, rfl⟩
    obtain ⟨n', hn'⟩ : ∃ n', n' = n - k - s.length := ⟨_, rfl⟩
    have HR2 := hide ((unhide HR1).cut2 hkn)
    have HU2 := hide ((unhide HU1).set 0 (.slice (wcutA (wcutA a n k) (n - k) s.length) (n - k - s.length) (n - k - s.length)))
    rw [← ha', ← hn'] at HR2 HU2 ⊢
    have HNE := hide hn'
    clear hr hkn ha' hn'
    go_wp2_with fail
    refine (need_any true _).mono ?_
    rintro e w2 ⟨rfl, hw⟩
    rw [hw]
    clear hw w2
    go_wp2_with fail
    go_ret
    exact ⟨unhide HU2, .inl ⟨s, k, _, _, unhide HRD, unhide HNE, rfl, unhide HR2⟩⟩
  · have HNO := hide hNo
    clear hNo
    go_wp2_with fail
    refine (need_any false _).mono ?_
    rintro e w2 ⟨rfl, hw⟩
    rw [hw]
    clear hw w2
    exact ⟨rfl, unhide HU1, .inr ⟨unhide HNO, rfl⟩⟩
end Go.Proofs.YtdlbpbglidhlfaaDoor

namespace Go.Proofs.YtdlbpbglidhlfaaDoor

/-- No value of at most q parts, no deeper than d. -/
def NoV (b : List UInt8) (d q : Nat) : Prop := ∀ v j, VReads b d v j → q < v.parts
theorem NoVal.noV {b : List UInt8} {d q : Nat} (h : NoVal b d) : NoV b d q := fun v j hr => absurd hr (h v j)
theorem NoV.noVal {b : List UInt8} {d : Nat} (h : NoV b d 200) : NoVal b d := fun v j hr => by have := h v j hr; have := hr.parts; omega
theorem noV_none {b : List UInt8} {d q : Nat} (h : q = 0) : NoV b d q := fun v j _ => by have := v.parts_pos; omega
/-- No list of at most q parts. -/
def NoL (b : List UInt8) (d q : Nat) : Prop := ∀ (l : List VD) (i j : Nat), Reads b ((l.length : Nat) : Int) i → l.length ≤ 40 → Listed b d i l j → VD.partsL l ≤ q → False
theorem noL_num {b : List UInt8} {d q : Nat} (h : NoNum b) : NoL b d q := fun _ _ _ hr _ _ _ => h _ _ hr
theorem noL_count {b : List UInt8} {d q i : Nat} {n : Int} (h : Reads b n i) (hn : n < 0 ∨ 40 < n) : NoL b d q := fun l _ _ hr hl _ _ => by
  obtain ⟨e, _⟩ := h.same hr
  omega
theorem noL_next {b : List UInt8} {d Q i a1 n : Nat} {q : List VD} (h : Reads b ((n : Nat) : Int) i) (hL : Listed b d i q a1) (hq : q.length < n) (hQ : Q ≤ 200) (hN : NoV (b.drop a1) d (Q - VD.partsL q)) : NoL b d Q := fun l i' j hr hl hL' hp => by
  obtain ⟨e, rfl⟩ := h.same hr
  have hln : n = l.length := by omega
  obtain ⟨p, rfl, hp2⟩ := hL.begin (r := b.drop j) hL'.kinds (by omega) hL'.eq
  match p, hp2, hln with
  | [], _, hln => simp at hln; omega
  | x :: p, hp2, _ =>
    simp only [VD.bytesL, List.append_assoc] at hp2
    have hxm : x ∈ q ++ x :: p := by simp
    rw [VD.partsL_append] at hp
    simp only [VD.partsL] at hp
    have := hN _ _ (VReads.of (hL'.kinds x hxm) (hL'.deep x hxm) (by omega) (hL'.fits x hxm) hp2)
    omega
/-- What a list's bytes are, behind its kind. -/
theorem VReads.list2 {b : List UInt8} {d k j : Nat} {v : VD} (hr : VReads b (d + 1) v j) (h : Reads b 2 k) : ∃ l i j', v = .mk 2 0 [] l ∧ Reads (b.drop k) ((l.length : Nat) : Int) i ∧ l.length ≤ 40 ∧ Listed (b.drop k) d i l j' := by
  obtain ⟨h1, h2⟩ := hr.behind h
  simp only [List.append_nil] at h2
  have hd := hr.deep
  have hf := hr.fits
  rcases VD.kinds_cases hr.kinds with ⟨n', rfl⟩ | ⟨s, rfl, hs⟩ | ⟨l, rfl, hl, hk⟩
  · simp [VD.k] at h1
  · simp [VD.k] at h1
  · have e : (VD.bytes (.mk 2 0 [] l)).drop k = numB ((l.length : Nat) : Int) ++ VD.bytesL l := by
      have e : VD.bytes (.mk 2 0 [] l) = numB ((2 : Nat) : Int) ++ (numB ((l.length : Nat) : Int) ++ VD.bytesL l) := rfl
      rw [e, h.len]; exact drop_numB
    rw [e, List.append_assoc] at h2
    have h3 := Reads.of (r := VD.bytesL l ++ b.drop j) (n := ((l.length : Nat) : Int)) (by unfold InR; omega) h2
    rw [VD.deep_mk] at hd
    refine ⟨l, _, _, rfl, h3, hl, ⟨hk, fun x hx => ?_, fun x hx => hf.mem hx, ?_, rfl⟩⟩
    · have := VD.deep_mem hx
      simp only [VD.l] at hd
      omega
    · rw [← List.drop_drop, h2, drop_numB, List.drop_left' rfl]
theorem noV_list {b : List UInt8} {d k q : Nat} (h : Reads b 2 k) (hN : NoL (b.drop k) d q) : NoV b (d + 1) (q + 1) := fun v j hr => by
  obtain ⟨l, i, j', rfl, h1, h2, h3⟩ := hr.list2 h
  rw [VD.parts_mk]
  simp only [VD.l]
  rcases Nat.lt_or_ge q (VD.partsL l) with h4 | h4
  · omega
  · exact absurd h4 fun h4 => hN l i j' h1 h2 h3 h4
theorem Listed.shift {b : List UInt8} {d k i j : Nat} {l : List VD} (h : Listed (b.drop k) d i l j) : Listed b d (k + i) l (k + j) :=
  ⟨h.kinds, h.deep, h.fits, by rw [← List.drop_drop, ← List.drop_drop]; exact h.eq, by have := h.len; omega⟩
theorem vreads_list2 {b : List UInt8} {d k i j : Nat} {l : List VD} (h : Reads b 2 k) (ht : Reads (b.drop k) ((l.length : Nat) : Int) i) (hL : Listed (b.drop k) d i l j) (hl : l.length ≤ 40) (hp : VD.partsL l + 1 ≤ 200) : VReads b (d + 1) (.mk 2 0 [] l) (k + j) :=
  vreads_list h ht hL.shift hl hp
end Go.Proofs.YtdlbpbglidhlfaaDoor

namespace Go.Proofs.YtdlbpbglidhlfaaDoor
open Go.RowKit

def ValueP (w0 : World) (g n p : Nat) (bs : List UInt8) (D : Nat) (w : World) (e : Ending) (W : World) : Prop := But g w W ∧
  ((∃ (v : VD) (j xK xl xc n' : Nat) (xN : Int) (xz : ByteArray) (xa a' : Option Addr), VReads bs (7 - D) v j ∧ p + v.parts ≤ 200 ∧ e = .returned (.agg #[.int .u8 ((xK : Nat) : Int), .int .i64 xN, .string xz, .slice xa xl xc]) ∧ v.At (fun k => w.heap.size ≤ k) W (.agg #[.int .u8 ((xK : Nat) : Int), .int .i64 xN, .string xz, .slice xa xl xc]) ∧ n' = n - j ∧ Rdr w0 g a' n' n' (p + v.parts) (bs.drop j) W) ∨
   (NoV bs (7 - D) (200 - p) ∧ e = .panicked left30))
def ListP (w0 : World) (g n p : Nat) (bs : List UInt8) (D : Nat) (w : World) (e : Ending) (W : World) : Prop := But g w W ∧
  ((∃ (l : List VD) (i j m rc n' : Nat) (ra a' : Option Addr), Reads bs ((l.length : Nat) : Int) i ∧ l.length ≤ 40 ∧ Listed bs (7 - D) i l j ∧ p + VD.partsL l ≤ 200 ∧ m = l.length ∧ e = .returned (.slice ra m rc) ∧ ValsO w.heap.size W (.slice ra m rc) l ∧ n' = n - j ∧ Rdr w0 g a' n' n' (p + VD.partsL l) (bs.drop j) W) ∨
   (NoL bs (7 - D) (200 - p) ∧ e = .panicked left30))
/-- What the reader's value tells, so deep. -/
def ValueC (D : Nat) : Prop := ∀ (w0 : World) (g n c p : Nat) (a : Option Addr) (bs : List UInt8) (w : World), Rdr w0 g a n c p bs w → p ≤ 200 → Calls Tryd.prog 68 #[.pointer (some ⟨g, 0, none⟩), .int .i64 ((D : Nat) : Int)] w (ValueP w0 g n p bs D w)
/-- What the reader's list tells. -/
def ListC (D : Nat) : Prop := ∀ (w0 : World) (g n c p : Nat) (a : Option Addr) (bs : List UInt8) (w : World), Rdr w0 g a n c p bs w → p ≤ 200 → Calls Tryd.prog 90 #[.pointer (some ⟨g, 0, none⟩), .int .i64 ((D : Nat) : Int)] w (ListP w0 g n p bs D w)

theorem ValsO.but {B0 g : Nat} {W W' : World} {r : Value} {q : List VD} (h : ValsO B0 W r q) (hg : g < B0) (hb : But g W W') : ValsO B0 W' r q := by
  obtain ⟨⟨xs, h1, h2⟩, h3⟩ := h
  refine ⟨⟨xs, ownsV_keeps h1 fun k hk => hb.block k (h1.lt k hk).2 (by have := h3 k hk; omega), fun i hi => (h2 i hi).kept (fun k hk hlt => hb.block k hlt (by have := hk.1; omega)) (fun _ h _ => h)⟩, h3⟩
/-- One more value behind the row. -/
theorem list_next {w0 w W W3 : World} {g n c p : Nat} {a : Option Addr} {bs : List UInt8} {r : Value} {q : List VD} (hv : ValsO w.heap.size W r q) (hg : g < w.heap.size) (hu : But g w W) (hu3 : But g W W3) (hR : Rdr w0 g a n c p bs W3) {x : VD} {xK xl xc : Nat} {xN : Int} {xz : ByteArray} {xa : Option Addr}
    (hx : x.At (fun k => W.heap.size ≤ k) W3 (.agg #[.int .u8 ((xK : Nat) : Int), .int .i64 xN, .string xz, .slice xa xl xc])) (hl : q.length ≤ 1048576) (ty : TypeId) :
    ∃ ra' rc' W7, (Builtin.append_ #[22, 22] ty #[r, .slice (some ⟨W3.heap.size, 0, none⟩) 1 1]).run Tryd.prog (W3.alloc (.cells #[.int .u8 ((xK : Nat) : Int), .int .i64 xN, .string xz, .slice xa xl xc] 24)) = .ok (.slice ra' (q.length + 1) rc') W7 ∧
      ValsO w.heap.size W7 (.slice ra' (q.length + 1) rc') (q ++ [x]) ∧ But g w W7 ∧ Rdr w0 g a n c p bs W7 := by
  have h3 := hv.but hg hu3
  have hu03 := hu.trans hu3
  obtain ⟨W6, hW6⟩ : ∃ W6, W6 = W3.alloc (.cells #[.int .u8 ((xK : Nat) : Int), .int .i64 xN, .string xz, .slice xa xl xc] 24) := ⟨_, rfl⟩
  have hb6 : Below W3.heap.size W3 W6 := by rw [hW6]; exact (Below.refl _ _).alloc (Nat.le_refl _) _
  have hr6 : W6.heap[W3.heap.size]? = some (.cells #[.int .u8 ((xK : Nat) : Int), .int .i64 xN, .string xz, .slice xa xl xc] 24 (0, 0)) := by rw [hW6]; exact heap_alloc_new W3 _
  obtain ⟨⟨i0, i1, i2, i3⟩, _⟩ := cells4 hr6
  have h6 := h3.later hb6
  have hx6 : x.At (fun k => w.heap.size ≤ k ∧ r.ownBlock ≠ some k) W6 (.agg #[.int .u8 ((xK : Nat) : Int), .int .i64 xN, .string xz, .slice xa xl xc]) :=
    hx.kept (fun k _ hk => hb6.block k hk) (fun k hk hlt => ⟨Nat.le_trans hu.size hk, fun e => by
      obtain ⟨xs, h1, _⟩ := hv.row
      have := (h1.lt k e).2
      omega⟩)
  obtain ⟨r', W7, hrun, hv7, hg7⟩ := h6.append (Nat.le_trans hu03.size hb6.size) hx6 (ad := ⟨W3.heap.size, 0, none⟩) (c := 1) (by rw [Addr.add_mid]; exact i0) (by rw [Addr.add_mid]; exact i1) (by rw [Addr.add_mid]; exact i2) (by rw [Addr.add_mid]; exact i3) hl ty
  obtain ⟨ra', rc', rfl, _⟩ := hv7.form
  rw [List.length_append, List.length_singleton] at hv7 hrun
  rw [hW6] at hrun
  have hu6 := hu03.trans (But.of hb6)
  have hR6 := hR.later hb6
  have hnew : ∀ k, k < w.heap.size → W7.heap[k]? = W6.heap[k]? := fun k hk => hg7.block k (Nat.lt_of_lt_of_le hk hu6.size) fun e => by
    have := h6.new k (by rw [← e])
    omega
  refine ⟨ra', rc', W7, hrun, hv7, ⟨hg7.os.trans hu6.os, hg7.tape.trans hu6.tape, hg7.output.trans hu6.output, Nat.le_trans hu6.size hg7.size, fun k hk hn => (hnew k hk).trans (hu6.block k hk hn)⟩, ?_⟩
  exact ⟨⟨hg7.os.trans hR6.below.os, hg7.tape.trans hR6.below.tape, hg7.output.trans hR6.below.output, Nat.le_trans hR6.below.size hg7.size, fun k hk => (hnew k (by have := hR.new; omega)).trans (hR6.below.block k hk)⟩, hR6.new, (hnew g hg).trans hR6.blk, hR6.bytes, hR6.len⟩

set_option maxRecDepth 100000 in
set_option maxHeartbeats 1000000 in
theorem rList_step (D : Nat) (hVC : ValueC D) : ListC D := by
  intro w0 g n c p a bs w hR hp
  have hgw : g < w.heap.size := lt_rowV hR.blk
  have hbl : bs.length = n := (bytes_len hR.bytes).1
  have HBL := hide hbl
  have HR := hide hR
  have HV := hide hVC
  have HP := hide hp
  have HG := hide hgw
  clear hR hVC hp hgw hbl
  go_enter Tryd.func90, Tryd.ntmps90
  go_wp2_with fail
  refine (rNumber_any w0 g n c p a bs w (unhide HR)).mono ?_
  rintro e w1 ⟨hu1, ⟨x, k, hr, rfl, hR1⟩ | ⟨hNo, rfl⟩⟩
  · have HU1 := hide hu1
    have HRD := hide hr
    have HR1 := hide hR1
    obtain ⟨hx1, hx2⟩ := hr.inr
    have hkn : k ≤ n := by have := hr.le; have := unhide HBL; omega
    have HKN := hide hkn
    clear hu1 hr hR1 hkn
    by_cases hneg : x < 0
    · have hge : decide (x ≥ 0) = false := by rw [decide_eq_false_iff_not]; omega
      have HNL : Hid (NoL bs (7 - D) (200 - p)) := noL_count (unhide HRD) (.inl hneg)
      clear hneg
      go_wp2_with fail
      refine (need_any false _).mono ?_
      rintro e w2 ⟨rfl, hw⟩
      rw [hw]
      clear hw w2
      exact ⟨rfl, unhide HU1, .inr ⟨unhide HNL, rfl⟩⟩
    · have hge : decide (x ≥ 0) = true := by rw [decide_eq_true_iff]; omega
      by_cases h40 : 40 < x
      · have hle : decide (x ≤ 40) = false := by rw [decide_eq_false_iff_not]; omega
        have HNL : Hid (NoL bs (7 - D) (200 - p)) := noL_count (unhide HRD) (.inr h40)
        clear hneg h40
        go_wp2_with fail
        refine (need_any false _).mono ?_
        rintro e w2 ⟨rfl, hw⟩
        rw [hw]
        clear hw w2
        exact ⟨rfl, unhide HU1, .inr ⟨unhide HNL, rfl⟩⟩
      · have hle : decide (x ≤ 40) = true := by rw [decide_eq_true_iff]; omega
        obtain ⟨N, rfl⟩ : ∃ N : Nat, x = ((N : Nat) : Int) := ⟨x.toNat, by omega⟩
        have hN40 : N ≤ 40 := by omega
        clear hneg h40 hx1 hx2
        go_wp2_with fail
        refine (need_any true _).mono ?_
        rintro e w2 ⟨rfl, hw⟩
        rw [hw]
        clear hw w2 hge hle
        go_wp2
        go_loopw [6, 17] (fun r i W => ∃ (q : List VD) (Q at1 rc n' P : Nat) (ra a' : Option Addr), q.length = Q ∧ Q ≤ N ∧ i = .int .i64 ((Q : Nat) : Int) ∧ r = .slice ra Q rc ∧ But g w W ∧ Listed bs (7 - D) k q at1 ∧ P = p + VD.partsL q ∧ P ≤ 200 ∧ ValsO w.heap.size W (.slice ra Q rc) q ∧ n' = n - at1 ∧ Rdr w0 g a' n' n' P (bs.drop at1) W) (fun _ i _ => N - (intOf i).toNat)
        case atStart => exact ⟨[], 0, k, 0, n - k, p, none, _, rfl, Nat.zero_le _, rfl, rfl, unhide HU1, Listed.nil _ _ _, by simp [VD.partsL], unhide HP, ValsO.nil _ _, rfl, unhide HR1⟩
        case round =>
          obtain ⟨q, Q, at1, rc, n', P, ra, a', hQ, hQN, rfl, rfl, hu, hL, hP, hP2, hv, hn', hR'⟩ := hrel
          have HQ := hide hQ
          have HU := hide hu
          have HL := hide hL
          have HPE := hide hP
          have HVS := hide hv
          have HNE := hide hn'
          have HR' := hide hR'
          clear hQ hu hL hP hv hn'
          by_cases hlt : Q < N
          · have hji : ((Q : Nat) : Int) < ((N : Nat) : Int) := by omega
            have HC := hide (unhide HV w0 g n' n' P a' _ wr hR' hP2)
            have HP2 := hide hP2
            clear hR' hP2
            go_wp2_with fail
            refine (unhide HC).mono ?_
            rintro e W3 ⟨hu3, ⟨v, j, xK, xl, xc, n'', xN, xz, xa, a'', hvr, hvp, rfl, hAt, hn'', hR3⟩ | ⟨hNo, rfl⟩⟩
            · obtain ⟨ra', rc', W7, hrun, hv7, hu7, hR7⟩ := list_next (unhide HVS) (unhide HG) (unhide HU) hu3 hR3 hAt (by have := unhide HQ; omega) 22
              rw [unhide HQ] at hrun hv7
              have HRUN := hide hrun
              have HV7 := hide hv7
              have HU7 := hide hu7
              have HR7 := hide hR7
              have HL7 := hide ((unhide HL).snoc hvr)
              have HVP := hide hvp
              have HN7 : Hid (n'' = n - (at1 + j)) := by show _ = _; have := unhide HNE; omega
              clear hu3 hvr hvp hAt hn'' hR3 hrun hv7 hu7 hR7
              go_wp2_with (at_builtin; refine Lib.wpList_append_run _ rfl _ _ 22 22 rfl _ _ rfl rfl _ _ (unhide HRUN) ?_)
              go_wp2
              refine ⟨⟨q ++ [v], Q + 1, at1 + j, rc', n'', P + v.parts, ra', a'', by rw [List.length_append, List.length_singleton, unhide HQ], by omega, by go_num, rfl, unhide HU7, unhide HL7, ?_, unhide HVP, unhide HV7, unhide HN7, ?_⟩, by simp [intOf]; omega⟩
              · rw [VD.partsL_append]; simp only [VD.partsL]; have := unhide HPE; omega
              · have := unhide HR7; rw [List.drop_drop] at this; exact this
            · have HNL : Hid (NoL bs (7 - D) (200 - p)) := noL_next (unhide HRD) (unhide HL) (by have := unhide HQ; omega) (by omega) (by have h1 := hNo; rw [show 200 - P = 200 - p - VD.partsL q by have := unhide HPE; omega] at h1; exact h1)
              have HUF := hide ((unhide HU).trans hu3)
              clear hNo hu3
              go_wp2_with fail
              exact ⟨rfl, unhide HUF, .inr ⟨unhide HNL, rfl⟩⟩
          · have hQe : Q = N := by omega
            have hji : ¬ ((Q : Nat) : Int) < ((N : Nat) : Int) := by omega
            have HQN : Hid (N = q.length) := by show _ = _; have := unhide HQ; omega
            have HP2 := hide hP2
            clear hR' hP2 hQN hlt
            subst hQe
            go_wp2
            go_ret
            exact ⟨unhide HU, .inl ⟨q, k, at1, _, _, n', _, a', by rw [← unhide HQN]; exact unhide HRD, by rw [← unhide HQN]; exact hN40, unhide HL, by rw [← unhide HPE]; exact unhide HP2, unhide HQN, rfl, unhide HVS, unhide HNE, by rw [← unhide HPE]; exact unhide HR'⟩⟩
  · have HU1 := hide hu1
    have HNL : Hid (NoL bs (7 - D) (200 - p)) := noL_num hNo
    clear hNo hu1
    go_wp2_with fail
    exact ⟨rfl, unhide HU1, .inr ⟨unhide HNL, rfl⟩⟩
end Go.Proofs.YtdlbpbglidhlfaaDoor

namespace Go.Proofs.YtdlbpbglidhlfaaDoor
open Go.RowKit

theorem VD.kinds_0 {v : VD} (h : v.k = 0) : v.kinds = (v.s.isEmpty && v.l.isEmpty) := by
  obtain ⟨k, n, s, l⟩ := v
  have h : k = 0 := h
  subst h; simp only [VD.kinds, VD.s, VD.l]
theorem VD.kinds_1 {v : VD} (h : v.k = 1) : v.kinds = (decide (v.n = 0) && v.l.isEmpty && decide (v.s.length ≤ 100)) := by
  obtain ⟨k, n, s, l⟩ := v
  have h : k = 1 := h
  subst h; simp only [VD.kinds, VD.s, VD.l, VD.n]; rfl
theorem VD.kinds_2 {v : VD} (h : v.k = 2) : v.kinds = (decide (v.n = 0) && v.s.isEmpty && decide (v.l.length ≤ 40) && VD.kindsL v.l) := by
  obtain ⟨k, n, s, l⟩ := v
  have h : k = 2 := h
  subst h; simp only [VD.kinds, VD.s, VD.l, VD.n]; rfl
theorem VD.kinds_3 {v : VD} (h0 : v.k ≠ 0) (h1 : v.k ≠ 1) (h2 : v.k ≠ 2) : v.kinds = false := by
  obtain ⟨k, n, s, l⟩ := v
  simp only [VD.k] at h0 h1 h2
  match k, h0, h1, h2 with
  | 0, h, _, _ => exact absurd rfl h
  | 1, _, h, _ => exact absurd rfl h
  | 2, _, _, h => exact absurd rfl h
  | k + 3, _, _, _ => simp [VD.kinds]
theorem VD.kindsL_take_succ {l : List VD} {j : Nat} (h : j < l.length) : VD.kindsL (l.take (j + 1)) = (VD.kindsL (l.take j) && (l[j]).kinds) := by
  rw [List.take_succ_eq_append_getElem h]
  generalize l.take j = p
  induction p with
  | nil => simp [VD.kindsL]
  | cons x r ih => simp only [List.cons_append, VD.kindsL, ih, Bool.and_assoc]
theorem VD.kindsL_false {l : List VD} {j : Nat} (h : j < l.length) (hf : (l[j]).kinds = false) : VD.kindsL l = false := by
  rw [Bool.eq_false_iff]
  intro ht
  have := (VD.kindsL_iff l).1 ht _ (List.getElem_mem h)
  rw [hf] at this
  cases this


end Go.Proofs.YtdlbpbglidhlfaaDoor
