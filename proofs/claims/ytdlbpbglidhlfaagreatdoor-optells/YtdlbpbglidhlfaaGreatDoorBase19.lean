/- OpRefM, OpRefC: our own definitions and contracts; no statement of the seat is proved here. -/
import Derived.Test.YtdlbpbglidhlfaaGreatDoorBase17
import Derived.Test.YtdlbpbglidhlfaaGreatDoorBase12
import Derived.Test.YtdlbpbglidhlfaaGreatDoorBase18
import Derived.Test.YtdlbpbglidhlfaaGreatDoorBase05
namespace Go.Proofs.YtdlbpbglidhlfaaGreatDoor
open Go.RowKit

theorem Took.broken {α : Type} {P : α → Prop} {enc : α → List UInt8} {bs : List UInt8} {x : α} {bs' : List UInt8} : Took P enc true bs x true bs' := ⟨fun h => by (cases h), fun _ _ h => by (cases h)⟩
theorem took_num {P : Int → Prop} {brk : Bool} {bs : List UInt8} {x : Int} {k : Nat} (h : Reads bs x k) (hP : P x) : Took P numB brk bs x brk (bs.drop k) := Took.of hP h.eq fun _ _ _ e => numB_prefix e
theorem took_noNum {P : Int → Prop} {brk : Bool} {bs s : List UInt8} {x : Int} (hP : ∀ y, P y → InR y) (h : NoNum bs) : Took P numB brk bs x true s := Took.no fun y r hy e => h _ _ (Reads.of (r := r) (hP y hy) e)
theorem took_badNum {P : Int → Prop} {brk : Bool} {bs s : List UInt8} {x y : Int} {k : Nat} (h : Reads bs x k) (hP : ¬ P x) : Took P numB brk bs y true s := Took.no fun z r hz e => hP (by rw [(numB_prefix (h.eq.symm.trans e)).1]; exact hz)
theorem took_text {brk : Bool} {bs s : List UInt8} {k : Nat} (h : ReadsT bs 400 s k) : Took PText textB brk bs s brk (bs.drop (k + s.length)) := Took.of (by have := h.most; show s.length ≤ 400; omega) h.whole fun _ _ _ e => textB_prefix e
theorem took_noText {brk : Bool} {bs s t : List UInt8} (h : NoText bs 400) : Took PText textB brk bs s true t := Took.no fun y r hy e => by
  have hy4 : y.length ≤ 400 := hy
  exact h _ _ (ReadsT.of (r := r) (by unfold InR; omega) (by omega) e)
theorem vreads_isRight {bs : List UInt8} {v : VD} {j : Nat} (h : VReads bs 6 v j) : v.right = true := by unfold VD.right; rw [h.kinds, decide_eq_true h.deep, decide_eq_true h.parts]; rfl
theorem took_val {brk : Bool} {bs : List UInt8} {v : VD} {j : Nat} (h : VReads bs 6 v j) : Took PVal VD.bytes brk bs v brk (bs.drop j) := Took.of ⟨vreads_isRight h, h.fits⟩ h.eq fun _ _ hy e => VD.bytes_prefix _ _ _ _ h.kinds (OD.right_kinds hy.1) e
theorem took_noVal {brk : Bool} {bs s : List UInt8} {v : VD} (h : NoVal bs 6) : Took PVal VD.bytes brk bs v true s := Took.no fun y r hy e => by
  have hr := hy.1
  unfold VD.right at hr
  simp only [Bool.and_eq_true, decide_eq_true_eq] at hr
  exact h _ _ (VReads.of (r := r) hr.1.1 hr.1.2 hr.2 hy.2 e)
theorem took_frag {brk : Bool} {bs : List UInt8} {l : List FI} {j : Nat} (h : FReads bs l j) : Took PFrag bytesF brk bs l brk (bs.drop j) := Took.of h.right h.eq fun _ _ hy e => bytesF_prefix h.right hy e
theorem took_noFrag {brk : Bool} {bs s : List UInt8} {l : List FI} (h : NoFrag bs) : Took PFrag bytesF brk bs l true s := Took.no fun _ r hy e => h _ _ (FReads.of (r := r) hy e)
/-- Where the reading is broken no operation is there. -/
theorem OpOk.none {bs s : List UInt8} {o : OD} (h : OpOk bs o true s) : NoOp bs := fun y hy e => by
  have := (h.full y [] hy (by rw [List.append_nil]; exact e)).1
  cases this
/-- Is the end reached it is all of the bytes; and where they are an operation's the end is reached. -/
theorem OpOk.ends {bs : List UInt8} {o : OD} {k : Nat} (h : OpOk bs o false (bs.drop k)) (hk : k ≤ bs.length) : (k = bs.length → bs = o.bytes) ∧ (∀ y : OD, y.Good → bs = y.bytes → k = bs.length ∧ o = y) := by
  constructor
  · intro e
    have h1 := h.sound rfl
    rw [e, List.drop_length, List.append_nil] at h1
    exact h1
  · intro y hy e
    obtain ⟨-, h2, h3⟩ := h.full y [] hy (by rw [List.append_nil]; exact e)
    refine ⟨?_, h2⟩
    have h4 := congrArg List.length h3
    rw [List.length_drop] at h4
    simp at h4
    omega
theorem noNum_op {bs : List UInt8} (h : NoNum bs) : NoOp bs := fun y hy e => by
  obtain ⟨t, ht⟩ := od_head y
  have hw := OD.right_what hy.rt
  exact h _ _ (Reads.of (n := ((y.what : Nat) : Int)) (r := t) (by unfold InR; omega) (by rw [e, ht]))
theorem badNum_op {bs : List UInt8} {x : Int} {k : Nat} (h : Reads bs x k) (hx : x < 1 ∨ x > 5) : NoOp bs := fun y hy e => by
  obtain ⟨t, ht⟩ := od_head y
  have hw := OD.right_what hy.rt
  have := (numB_prefix (h.eq.symm.trans (e.trans ht))).1
  omega

/-- An operation that is being read: its struct in the block G3, the result's in G2. -/
structure OpD (w : World) (G2 G3 : Nat) (row : Array Value) (W : World) : Prop where
  bw : Below w.heap.size w W
  b2 : W.heap[G2]? = some (.cells #[.int .u8 0, .string ⟨#[]⟩, .int .i64 0, .int .u8 0, .int .i64 0, .string ⟨#[]⟩, .slice none 0 0, .slice none 0 0, .int .i64 0] 27 (0, 0))
  b3 : W.heap[G3]? = some (.cells row 27 (0, 0))
  l2 : w.heap.size ≤ G2
  l3 : G2 < G3
theorem OpD.later {w W W' : World} {G2 G3 : Nat} {row : Array Value} (h : OpD w G2 G3 row W) (hb : Below W.heap.size W W') : OpD w G2 G3 row W' :=
  ⟨h.bw.trans (hb.mono h.bw.size), (hb.block _ (Array.getElem?_eq_some_iff.1 h.b2).1).trans h.b2, (hb.block _ (Array.getElem?_eq_some_iff.1 h.b3).1).trans h.b3, h.l2, h.l3⟩
theorem OpD.set {w W : World} {G2 G3 : Nat} {row : Array Value} (h : OpD w G2 G3 row W) (o : Nat) (v : Value) : OpD w G2 G3 (row.setIfInBounds o v) (W.setCell ⟨G3, o, none⟩ v) := by
  have l2 := h.l2
  have l3 := h.l3
  refine ⟨h.bw.setCell (p := ⟨G3, o, none⟩) (by show w.heap.size ≤ G3; omega) v, (Below.heap_setCell _ _ _ _ (by show G2 ≠ G3; omega)).trans h.b2, ?_, l2, l3⟩
  exact heap_setCell_same _ _ _ _ _ _ h.b3
theorem OpD.cells {w W : World} {G2 G3 : Nat} {v0 v1 v2 v3 v4 v5 v6 v7 v8 : Value} (h : OpD w G2 G3 #[v0, v1, v2, v3, v4, v5, v6, v7, v8] W) : (W.cell? ⟨G3, 0, none⟩ = some v0 ∧ W.cell? ⟨G3, 1, none⟩ = some v1 ∧ W.cell? ⟨G3, 2, none⟩ = some v2 ∧ W.cell? ⟨G3, 3, none⟩ = some v3 ∧ W.cell? ⟨G3, 4, none⟩ = some v4 ∧ W.cell? ⟨G3, 5, none⟩ = some v5 ∧ W.cell? ⟨G3, 6, none⟩ = some v6 ∧ W.cell? ⟨G3, 7, none⟩ = some v7 ∧ W.cell? ⟨G3, 8, none⟩ = some v8) ∧ ∀ i, W.frozen? ⟨G3, i, none⟩ = false := ⟨cells9 h.b3, fun _ => frozen_of_row _ _ _ _ _ h.b3⟩
theorem OpD.room {w W : World} {G2 G3 : Nat} {row : Array Value} (h : OpD w G2 G3 row W) : W.cell? ⟨G2, 0, none⟩ = some (.int .u8 0) ∧ ∀ i, W.frozen? ⟨G2, i, none⟩ = false := ⟨(cells9 h.b2).1, fun _ => frozen_of_row _ _ _ _ _ h.b2⟩

/-- What the document's read tells. -/
def RReadM (w : World) (bs : List UInt8) (e : Ending) (W : World) : Prop := ∃ (o : OD) (L : Nat) (s : ByteArray) (t : Int) (K : Nat) (N : Int) (z : ByteArray) (a : Option Addr) (m c : Nat) (fa : Option Addr) (fn fc : Nat) (q : Int) (ok : Bool),
  e = .returned (.tuple #[OD.form9 L s t K N z a m c fa fn fc q, .bool ok]) ∧ Below w.heap.size w W ∧ (∀ y : OD, y.Good → bs = y.bytes → ok = true ∧ o = y) ∧ (ok = true → bs = o.bytes ∧ OD.Parts (fun k => w.heap.size ≤ k) W o L s t K N z a m c fa fn fc q ∧ o.Lt ∧ SmallF o.frag ∧ o.id.length ≤ 1000000)
theorem set9_below {w W : World} {g : Nat} (h : Below w.heap.size w W) (hg : w.heap.size ≤ g) (v0 v1 v2 v3 v4 v5 v6 v7 v8 : Value) : Below w.heap.size w (set9 W g v0 v1 v2 v3 v4 v5 v6 v7 v8) := by
  unfold set9
  exact ((((((((h.setCell (p := ⟨g, 0, none⟩) hg _).setCell (p := ⟨g, 1, none⟩) hg _).setCell (p := ⟨g, 2, none⟩) hg _).setCell (p := ⟨g, 3, none⟩) hg _).setCell (p := ⟨g, 4, none⟩) hg _).setCell (p := ⟨g, 5, none⟩) hg _).setCell (p := ⟨g, 6, none⟩) hg _).setCell (p := ⟨g, 7, none⟩) hg _).setCell (p := ⟨g, 8, none⟩) hg _
theorem rread_no {w W : World} {bs : List UInt8} {G2 : Nat} (hb : Below w.heap.size w W) (hg : w.heap.size ≤ G2) (hN : NoOp bs) (L : Nat) (s : ByteArray) (t : Int) (K : Nat) (N : Int) (z : ByteArray) (a : Option Addr) (m c : Nat) (fa : Option Addr) (fn fc : Nat) (q : Int) :
    RReadM w bs (.returned (.tuple #[.agg #[.int .u8 ((L : Nat) : Int), .string s, .int .i64 t, .int .u8 ((K : Nat) : Int), .int .i64 N, .string z, .slice a m c, .slice fa fn fc, .int .i64 q], .bool false])) (set9 W G2 (.int .u8 ((L : Nat) : Int)) (.string s) (.int .i64 t) (.int .u8 ((K : Nat) : Int)) (.int .i64 N) (.string z) (.slice a m c) (.slice fa fn fc) (.int .i64 q)) :=
  ⟨zeroO, L, s, t, K, N, z, a, m, c, fa, fn, fc, q, false, rfl, set9_below hb hg _ _ _ _ _ _ _ _ _, fun y hy e => absurd e (hN y hy), fun h => by (cases h)⟩
theorem rread_done {w W : World} {G2 G3 k n : Nat} {bs : List UInt8} {o : OD} {L : Nat} {s : ByteArray} {t : Int} {K : Nat} {N : Int} {z : ByteArray} {a : Option Addr} {m c : Nat} {fa : Option Addr} {fn fc : Nat} {q : Int} {ok : Bool}
    (h : OpD w G2 G3 #[.int .u8 ((L : Nat) : Int), .string s, .int .i64 t, .int .u8 ((K : Nat) : Int), .int .i64 N, .string z, .slice a m c, .slice fa fn fc, .int .i64 q] W) (hn : bs.length = n) (hk : k ≤ n) (hok : OpOk bs o false (bs.drop k)) (he : ok = decide (k = n))
    (hL : L = o.what) (hs : s = ⟨o.id.toArray⟩) (ht : t = o.token) (hq : q = o.quota) (hf : o.Fits) (hv : o.value.At (fun k => G3 < k) W (.agg #[.int .u8 ((K : Nat) : Int), .int .i64 N, .string z, .slice a m c])) (hF : FragAt (fun k => G3 < k) W o.frag (.slice fa fn fc)) (hlt : o.Lt) (hsm : SmallF o.frag) (hid : o.id.length ≤ 1000000) :
    RReadM w bs (.returned (.tuple #[.agg #[.int .u8 ((L : Nat) : Int), .string s, .int .i64 t, .int .u8 ((K : Nat) : Int), .int .i64 N, .string z, .slice a m c, .slice fa fn fc, .int .i64 q], .bool ok])) (set9 W G2 (.int .u8 ((L : Nat) : Int)) (.string s) (.int .i64 t) (.int .u8 ((K : Nat) : Int)) (.int .i64 N) (.string z) (.slice a m c) (.slice fa fn fc) (.int .i64 q)) := by
  have l2 := h.l2
  have l3 := h.l3
  obtain ⟨e1, e2⟩ := hok.ends (by omega)
  have hkk : ∀ k, G3 < k → k < W.heap.size → (set9 W G2 (.int .u8 ((L : Nat) : Int)) (.string s) (.int .i64 t) (.int .u8 ((K : Nat) : Int)) (.int .i64 N) (.string z) (.slice a m c) (.slice fa fn fc) (.int .i64 q)).heap[k]? = W.heap[k]? := fun k hk _ => set9_other (by omega) _ _ _ _ _ _ _ _ _
  refine ⟨o, L, s, t, K, N, z, a, m, c, fa, fn, fc, q, ok, rfl, set9_below h.bw l2 _ _ _ _ _ _ _ _ _, fun y hy e => ?_, fun h1 => ⟨?_, ⟨hL, hs, ht, hq, hf, ?_, ?_⟩, hlt, hsm, hid⟩⟩
  · obtain ⟨f1, f2⟩ := e2 y hy e
    exact ⟨by rw [he, decide_eq_true_eq]; omega, f2⟩
  · rw [he, decide_eq_true_eq] at h1
    exact e1 (by omega)
  · exact hv.kept hkk fun k h1 _ => by omega
  · exact hF.kept hkk fun k h1 _ => by omega
end Go.Proofs.YtdlbpbglidhlfaaGreatDoor

namespace Go.Proofs.YtdlbpbglidhlfaaGreatDoor
open Go.RowKit

set_option maxRecDepth 100000 in
set_option maxHeartbeats 8000000 in
theorem rORead_any (a : Option Addr) (n c : Nat) (bs : List UInt8) (w : World) (h : Bytes w (.slice a n c) bs) (hn : n ≤ 1048576) : Calls Tryz.prog 37 #[.slice a n c] w (RReadM w bs) := by
  obtain ⟨hbl, hnc⟩ := bytes_len h
  obtain ⟨w1, hw1⟩ : ∃ w1, w1 = w.alloc (.cells #[.int .u8 0, .string ⟨#[]⟩, .int .i64 0, .int .u8 0, .int .i64 0, .string ⟨#[]⟩, .slice none 0 0, .slice none 0 0, .int .i64 0] 27) := ⟨_, rfl⟩
  have hb1 : Below w.heap.size w w1 := by rw [hw1]; exact (Below.refl _ w).alloc (Nat.le_refl _) _
  have hr1 : w1.heap[w.heap.size]? = some (.cells #[.int .u8 0, .string ⟨#[]⟩, .int .i64 0, .int .u8 0, .int .i64 0, .string ⟨#[]⟩, .slice none 0 0, .slice none 0 0, .int .i64 0] 27 (0, 0)) := by rw [hw1]; exact heap_alloc_new w _
  have hs1 : w.heap.size < w1.heap.size := (Array.getElem?_eq_some_iff.1 hr1).1
  have HT0 := hide (wRefTakeNum_any (.slice a n c) bs w1 (h.kept fun k _ hk => hb1.block k hk) (by omega))
  have HSL : Hid (∀ X, Below w.heap.size w X → ∀ p, p ≤ n → ∃ sa sc, (∀ W : World, (Instr.slice 28 (.slice a n c) (some (.int .i64 (p : Nat))) none none).run Tryz.prog W = .ok (.slice sa (n - p) sc) W) ∧ (∀ W : World, (Instr.sliceAt 28 (.slice a n c) (some (.int .i64 (p : Nat))) none none).run Tryz.prog W = .ok (.slice sa (n - p) sc) W) ∧ Bytes X (.slice sa (n - p) sc) (bs.drop p)) := fun X hX p hp => by
    obtain ⟨sa, sc, hB, q, q'⟩ := slice_from (h.kept fun k _ hk => hX.block k hk) hp
    exact ⟨sa, sc, q, q', hB⟩
  have HBL : Hid (bs.length = n) := hbl
  have HB1 := hide hb1
  have HR1 := hide hr1
  have HS1 := hide hs1
  have HW1 := hide hw1
  clear h hbl hnc hb1 hr1 hs1 hw1
  go_enter Tryz.func37, Tryz.ntmps37
  go_upto_region 1 with fail
  rw [← unhide HW1]
  clear HW1
  go_wp2_with fail
  refine (unhide HT0).mono ?_
  rintro e w9 ⟨ht, hw⟩
  rw [hw]
  clear hw w9
  rcases ht.symm with ⟨hN, rfl⟩ | ⟨x, P, hr, rfl⟩
  · have HNO : Hid (NoOp bs) := noNum_op hN
    obtain ⟨m0, m1, m2, m3, m4, m5, m6, m7, m8⟩ := cells9 (unhide HR1)
    have fm : ∀ i, w1.frozen? ⟨w.heap.size, i, none⟩ = false := fun i => frozen_of_row _ _ _ _ _ (unhide HR1)
    clear hN
    go_wp2_with fail
    refine bodyPost_ret (results_ctO rfl _ _ _ _ _ _ _ rfl (set9_heap (unhide HR1) _ _ _ _ _ _ _ _ _) Tryz.underlying27 rfl (by kernel_rfl)) rfl ?_
    exact rread_no (unhide HB1) (Nat.le_refl _) (unhide HNO) _ _ _ _ _ _ _ _ _ _ _ _ _
  have hPn := hr.le
  rw [unhide HBL] at hPn
  have hP0 : (((P : Nat) : Int) == 0) = false := by rw [beq_eq_false_iff_ne]; have := hr.pos; omega
  by_cases hx1 : x < 1
  · have HNO : Hid (NoOp bs) := badNum_op hr (.inl hx1)
    have p1 : decide (x < 1) = true := decide_eq_true hx1
    obtain ⟨m0, m1, m2, m3, m4, m5, m6, m7, m8⟩ := cells9 (unhide HR1)
    have fm : ∀ i, w1.frozen? ⟨w.heap.size, i, none⟩ = false := fun i => frozen_of_row _ _ _ _ _ (unhide HR1)
    clear hr hx1
    go_wp2_with fail
    refine bodyPost_ret (results_ctO rfl _ _ _ _ _ _ _ rfl (set9_heap (unhide HR1) _ _ _ _ _ _ _ _ _) Tryz.underlying27 rfl (by kernel_rfl)) rfl ?_
    exact rread_no (unhide HB1) (Nat.le_refl _) (unhide HNO) _ _ _ _ _ _ _ _ _ _ _ _ _
  by_cases hx5 : x > 5
  · have HNO : Hid (NoOp bs) := badNum_op hr (.inr hx5)
    have p1 : decide (x < 1) = false := decide_eq_false hx1
    have p5 : decide (x > 5) = true := decide_eq_true hx5
    obtain ⟨m0, m1, m2, m3, m4, m5, m6, m7, m8⟩ := cells9 (unhide HR1)
    have fm : ∀ i, w1.frozen? ⟨w.heap.size, i, none⟩ = false := fun i => frozen_of_row _ _ _ _ _ (unhide HR1)
    clear hr hx1 hx5
    go_wp2_with fail
    refine bodyPost_ret (results_ctO rfl _ _ _ _ _ _ _ rfl (set9_heap (unhide HR1) _ _ _ _ _ _ _ _ _) Tryz.underlying27 rfl (by kernel_rfl)) rfl ?_
    exact rread_no (unhide HB1) (Nat.le_refl _) (unhide HNO) _ _ _ _ _ _ _ _ _ _ _ _ _
  obtain ⟨N, rfl⟩ : ∃ N : Nat, x = ((N : Nat) : Int) := ⟨x.toNat, by omega⟩
  have hwN : IntKind.u8.wrap ((N : Nat) : Int) = ((N : Nat) : Int) := by rw [IntKind.wrap_u8]; omega
  have HN5 : Hid (N ≤ 5) := by show _ ≤ _; omega
  have HT1 := hide (took_num (P := PNum 5) (brk := false) hr (by unfold PNum; omega))
  obtain ⟨w2, hw2⟩ : ∃ w2, w2 = w1.alloc (.cells #[.int .u8 ((N : Nat) : Int), .string ⟨#[]⟩, .int .i64 0, .int .u8 0, .int .i64 0, .string ⟨#[]⟩, .slice none 0 0, .slice none 0 0, .int .i64 0] 27) := ⟨_, rfl⟩
  have hb2 : Below w1.heap.size w1 w2 := by rw [hw2]; exact (Below.refl _ _).alloc (Nat.le_refl _) _
  have hr2 : w2.heap[w1.heap.size]? = some (.cells #[.int .u8 ((N : Nat) : Int), .string ⟨#[]⟩, .int .i64 0, .int .u8 0, .int .i64 0, .string ⟨#[]⟩, .slice none 0 0, .slice none 0 0, .int .i64 0] 27 (0, 0)) := by rw [hw2]; exact heap_alloc_new _ _
  have HI2 : Hid (OpD w w.heap.size w1.heap.size #[.int .u8 ((N : Nat) : Int), .string ⟨#[]⟩, .int .i64 0, .int .u8 0, .int .i64 0, .string ⟨#[]⟩, .slice none 0 0, .slice none 0 0, .int .i64 0] w2) := ⟨(unhide HB1).trans (hb2.mono (unhide HB1).size), (hb2.block _ (unhide HS1)).trans (unhide HR1), hr2, Nat.le_refl _, unhide HS1⟩
  have HW2 := hide hw2
  have hcs : N = 1 ∨ (N = 2 ∨ N = 5) ∨ N = 3 ∨ N = 4 := by omega
  have p1 : decide (((N : Nat) : Int) < 1) = false := decide_eq_false hx1
  have p5 : decide (((N : Nat) : Int) > 5) = false := decide_eq_false hx5
  clear hr hb2 hr2 hw2 HR1 HB1 hx1 hx5 HT0
  go_upto_region 5 with fail
  rw [← unhide HW2]
  clear HW2 hwN p1 p5 hP0
  rcases hcs with hN | hN | hN | hN
  · have HHN := hide hN
    have e1 : (((N : Nat) : Int) == 1) = true := by rw [beq_iff_eq]; omega
    clear hN
    obtain ⟨sa, sc, q1, q2, hB⟩ := unhide HSL w2 (unhide HI2).bw P hPn
    have HC := hide (rTake_any sa (n - P) sc (bs.drop P) w2 hB (by omega))
    clear hB
    go_wp2_with fail
    refine (unhide HC).mono ?_
    rintro e w7 ⟨l, fa, fn, fc, J, rfl, hF, hb7, hor⟩
    have HI8 := hide ((unhide HI2).later hb7)
    rcases hor.symm with ⟨rfl, hN, -, -⟩ | ⟨hJp, -, hr⟩
    · have HNO : Hid (NoOp bs) := (read_1 (unhide HHN) (unhide HT1) (took_noFrag (l := []) (s := []) hN) (Took.broken (P := PNum 400) (enc := numB) (bs := []) (x := 0) (bs' := []))).none
      clear hN hF hb7
      clear q1 q2
      obtain ⟨⟨c0, c1, c2, c3, c4, c5, c6, c7, c8⟩, fz⟩ := (unhide HI8).cells
      obtain ⟨m0, m1, m2, m3, m4, m5, m6, m7, m8⟩ := cells9 (unhide HI8).b2
      have fm : ∀ i, World.frozen? w7 ⟨w.heap.size, i, none⟩ = false := fun i => frozen_of_row _ _ _ _ _ (unhide HI8).b2
      go_wp2_with fail
      refine bodyPost_ret (results_ctO rfl _ _ _ _ _ _ _ rfl (set9_heap (unhide HI8).b2 _ _ _ _ _ _ _ _ _) Tryz.underlying27 rfl (by kernel_rfl)) rfl ?_
      exact rread_no (unhide HI8).bw (Nat.le_refl _) (unhide HNO) _ _ _ _ _ _ _ _ _ _ _ _ _
    have hJl : J ≤ (bs.drop P).length := by have h1 := congrArg List.length hr.eq; rw [List.length_append] at h1; have h2 := hr.len; omega
    have HFR := hide hr.right
    have HT2 := took_frag (brk := false) hr
    have hJ0 : (((J : Nat) : Int) == 0) = false := by rw [beq_eq_false_iff_ne]; omega
    have hF7 : FragAt (fun k => w1.heap.size < k) w7 l (.slice fa fn fc) := hF.wider fun k hk => Nat.lt_of_lt_of_le (Array.getElem?_eq_some_iff.1 (unhide HI2).b3).1 hk
    clear hF
    obtain ⟨P2, hP2⟩ : ∃ Y9, Y9 = P + J := ⟨_, rfl⟩
    rw [List.drop_drop, ← hP2] at HT2
    rw [List.length_drop, unhide HBL] at hJl
    have hP2n : P2 ≤ n := by omega
    have hPi : ((P : Nat) : Int) + ((J : Nat) : Int) = ((P2 : Nat) : Int) := by omega
    have HT2 := hide HT2
    have HJ3 : Hid (OpD w w.heap.size w1.heap.size #[.int .u8 ((N : Nat) : Int), .string ⟨#[]⟩, .int .i64 0, .int .u8 0, .int .i64 0, .string ⟨#[]⟩, .slice none 0 0, .slice fa fn fc, .int .i64 0] (w7.setCell ⟨w1.heap.size, 7, none⟩ (.slice fa fn fc))) := ((unhide HI8).set 7 _)
    have HF : Hid (FragAt (fun k => w1.heap.size < k) (w7.setCell ⟨w1.heap.size, 7, none⟩ (.slice fa fn fc)) l (.slice fa fn fc)) := (FragAt.set hF7 7 _)
    clear hF7
    obtain ⟨x3, hx3⟩ : ∃ X, X = (w7.setCell ⟨w1.heap.size, 7, none⟩ (.slice fa fn fc)) := ⟨_, rfl⟩
    rw [← hx3] at HJ3 HF
    have HX := hide hx3
    obtain ⟨⟨c0, c1, c2, c3, c4, c5, c6, c7, c8⟩, fz⟩ := (unhide HI8).cells
    have f7 := fz 7
    clear hx3 hJl hP2 HC q2 hr hJp hb7
    go_upto_region 11 with fail
    rw [← unhide HX]
    clear HX c0 c1 c2 c3 c4 c5 c6 c7 c8 fz f7 
    clear q1
    obtain ⟨sa, sc, q1, q2, hB⟩ := unhide HSL x3 (unhide HJ3).bw P2 hP2n
    have HC := hide (wRefTakeNum_any (.slice sa (n - P2) sc) (bs.drop P2) x3 hB (by have := unhide HBL; rw [List.length_drop]; omega))
    clear hB
    go_wp2_with fail
    refine (unhide HC).mono ?_
    rintro e w9 ⟨ht, hw⟩
    rw [hw]
    clear hw w9
    rcases ht.symm with ⟨hN, rfl⟩ | ⟨q, J, hr, rfl⟩
    · have HNO : Hid (NoOp bs) := (read_1 (unhide HHN) (unhide HT1) (unhide HT2) (took_noNum (x := 0) (s := []) (fun y h => by unfold PNum at h; unfold InR; omega) hN) ).none
      clear hN
      clear q1 q2
      obtain ⟨⟨c0, c1, c2, c3, c4, c5, c6, c7, c8⟩, fz⟩ := (unhide HJ3).cells
      obtain ⟨m0, m1, m2, m3, m4, m5, m6, m7, m8⟩ := cells9 (unhide HJ3).b2
      have fm : ∀ i, World.frozen? x3 ⟨w.heap.size, i, none⟩ = false := fun i => frozen_of_row _ _ _ _ _ (unhide HJ3).b2
      go_wp2_with fail
      refine bodyPost_ret (results_ctO rfl _ _ _ _ _ _ _ rfl (set9_heap (unhide HJ3).b2 _ _ _ _ _ _ _ _ _) Tryz.underlying27 rfl (by kernel_rfl)) rfl ?_
      exact rread_no (unhide HJ3).bw (Nat.le_refl _) (unhide HNO) _ _ _ _ _ _ _ _ _ _ _ _ _
    have hJl := hr.le
    have hJ0 : (((J : Nat) : Int) == 0) = false := by rw [beq_eq_false_iff_ne]; have := hr.pos; omega
    by_cases hq0 : q < 0
    · have HNO : Hid (NoOp bs) := (read_1 (unhide HHN) (unhide HT1) (unhide HT2) (took_badNum (y := 0) (s := []) hr (fun h => by unfold PNum at h; omega)) ).none
      have p1 : decide (q < 0) = true := decide_eq_true hq0
      clear hr hJl hq0 q1 q2
      obtain ⟨⟨c0, c1, c2, c3, c4, c5, c6, c7, c8⟩, fz⟩ := (unhide HJ3).cells
      obtain ⟨m0, m1, m2, m3, m4, m5, m6, m7, m8⟩ := cells9 (unhide HJ3).b2
      have fm : ∀ i, World.frozen? x3 ⟨w.heap.size, i, none⟩ = false := fun i => frozen_of_row _ _ _ _ _ (unhide HJ3).b2
      go_wp2_with fail
      refine bodyPost_ret (results_ctO rfl _ _ _ _ _ _ _ rfl (set9_heap (unhide HJ3).b2 _ _ _ _ _ _ _ _ _) Tryz.underlying27 rfl (by kernel_rfl)) rfl ?_
      exact rread_no (unhide HJ3).bw (Nat.le_refl _) (unhide HNO) _ _ _ _ _ _ _ _ _ _ _ _ _
    by_cases hq4 : q > 400
    · have HNO : Hid (NoOp bs) := (read_1 (unhide HHN) (unhide HT1) (unhide HT2) (took_badNum (y := 0) (s := []) hr (fun h => by unfold PNum at h; omega)) ).none
      have p1 : decide (q < 0) = false := decide_eq_false hq0
      have p2 : decide (q > 400) = true := decide_eq_true hq4
      clear hr hJl hq0 hq4 q1 q2
      obtain ⟨⟨c0, c1, c2, c3, c4, c5, c6, c7, c8⟩, fz⟩ := (unhide HJ3).cells
      obtain ⟨m0, m1, m2, m3, m4, m5, m6, m7, m8⟩ := cells9 (unhide HJ3).b2
      have fm : ∀ i, World.frozen? x3 ⟨w.heap.size, i, none⟩ = false := fun i => frozen_of_row _ _ _ _ _ (unhide HJ3).b2
      go_wp2_with fail
      refine bodyPost_ret (results_ctO rfl _ _ _ _ _ _ _ rfl (set9_heap (unhide HJ3).b2 _ _ _ _ _ _ _ _ _) Tryz.underlying27 rfl (by kernel_rfl)) rfl ?_
      exact rread_no (unhide HJ3).bw (Nat.le_refl _) (unhide HNO) _ _ _ _ _ _ _ _ _ _ _ _ _
    have p1 : decide (q < 0) = false := decide_eq_false hq0
    have p2 : decide (q > 400) = false := decide_eq_false hq4
    have HQ4 : Hid (0 ≤ q ∧ q ≤ 400) := by show _ ∧ _; omega
    have HT3 := took_num (P := PNum 400) (brk := false) hr (by unfold PNum; omega)
    clear hq0 hq4
    obtain ⟨P3, hP3⟩ : ∃ Y9, Y9 = P2 + J := ⟨_, rfl⟩
    rw [List.drop_drop, ← hP3] at HT3
    rw [List.length_drop, unhide HBL] at hJl
    have hP3n : P3 ≤ n := by omega
    have hPi : ((P2 : Nat) : Int) + ((J : Nat) : Int) = ((P3 : Nat) : Int) := by omega
    have HT3 := hide HT3
    have HJ4 : Hid (OpD w w.heap.size w1.heap.size #[.int .u8 ((N : Nat) : Int), .string ⟨#[]⟩, .int .i64 0, .int .u8 0, .int .i64 0, .string ⟨#[]⟩, .slice none 0 0, .slice fa fn fc, .int .i64 q] (x3.setCell ⟨w1.heap.size, 8, none⟩ (.int .i64 q))) := ((unhide HJ3).set 8 _)
    have HF2 : Hid (FragAt (fun k => w1.heap.size < k) (x3.setCell ⟨w1.heap.size, 8, none⟩ (.int .i64 q)) l (.slice fa fn fc)) := (FragAt.set (unhide HF) 8 _)
    clear HF
    have HF := hide (unhide HF2)
    clear HF2
    obtain ⟨x4, hx4⟩ : ∃ X, X = (x3.setCell ⟨w1.heap.size, 8, none⟩ (.int .i64 q)) := ⟨_, rfl⟩
    rw [← hx4] at HJ4 HF
    have HX := hide hx4
    obtain ⟨⟨c0, c1, c2, c3, c4, c5, c6, c7, c8⟩, fz⟩ := (unhide HJ3).cells
    have f8 := fz 8
    clear hx4 hJl hP3 HC q2 hr
    go_upto_region 15 with fail
    rw [← unhide HX]
    clear HX c0 c1 c2 c3 c4 c5 c6 c7 c8 fz f8 
    clear q1
    obtain ⟨te, hte⟩ : ∃ te, te = decide (P3 = n) := ⟨_, rfl⟩
    have hen : (((P3 : Nat) : Int) == ((n : Nat) : Int)) = te := by rw [hte, Bool.eq_iff_iff, beq_iff_eq, decide_eq_true_eq]; omega
    have HTE := hide hte
    clear hte
    obtain ⟨⟨c0, c1, c2, c3, c4, c5, c6, c7, c8⟩, fz⟩ := (unhide HJ4).cells
    obtain ⟨m0, m1, m2, m3, m4, m5, m6, m7, m8⟩ := cells9 (unhide HJ4).b2
    have fm : ∀ i, World.frozen? x4 ⟨w.heap.size, i, none⟩ = false := fun i => frozen_of_row _ _ _ _ _ (unhide HJ4).b2
    go_wp2_with fail
    refine bodyPost_ret (results_ctO rfl _ _ _ _ _ _ _ rfl (set9_heap (unhide HJ4).b2 _ _ _ _ _ _ _ _ _) Tryz.underlying27 rfl (by kernel_rfl)) rfl ?_
    exact rread_done (o := ⟨N, [], 0, zeroD, l, q⟩) (k := P3) (n := n) (unhide HJ4) (unhide HBL) (by omega) (read_1 (unhide HHN) (unhide HT1) (unhide HT2) (unhide HT3)) (unhide HTE) rfl rfl rfl rfl (⟨by have := unhide HN5; show N < 256; omega, Nat.zero_le _, by show InR 0; unfold InR; omega, by have := unhide HQ4; show InR q; unfold InR; omega⟩) (zero_at _ _) (unhide HF) (by show zeroD.parts ≤ 1000000 ∧ zeroD.deep ≤ 1000; decide) (rightF_small (unhide HFR)) (Nat.zero_le _)
  · have HHN := hide hN
    have e1 : (((N : Nat) : Int) == 1) = false := by rw [beq_eq_false_iff_ne]; omega
    have e3 : (((N : Nat) : Int) == 3) = false := by rw [beq_eq_false_iff_ne]; omega
    have e4 : (((N : Nat) : Int) == 4) = false := by rw [beq_eq_false_iff_ne]; omega
    clear hN
    obtain ⟨sa, sc, q1, q2, hB⟩ := unhide HSL w2 (unhide HI2).bw P hPn
    have HC := hide (wRefTakeText_any (.slice sa (n - P) sc) (bs.drop P) 400 w2 hB (by have := unhide HBL; rw [List.length_drop]; omega) (by unfold InR; omega))
    clear hB
    go_wp2_with fail
    refine (unhide HC).mono ?_
    rintro e w9 ⟨ht, hw⟩
    rw [hw]
    clear hw w9
    rcases ht.symm with ⟨hN, rfl⟩ | ⟨s, k2, hr, rfl⟩
    · have HNO : Hid (NoOp bs) := (read_2 (unhide HHN) (unhide HT1) (took_noText (s := []) (t := []) hN) ).none
      clear hN
      clear q1 q2
      obtain ⟨⟨c0, c1, c2, c3, c4, c5, c6, c7, c8⟩, fz⟩ := (unhide HI2).cells
      obtain ⟨m0, m1, m2, m3, m4, m5, m6, m7, m8⟩ := cells9 (unhide HI2).b2
      have fm : ∀ i, World.frozen? w2 ⟨w.heap.size, i, none⟩ = false := fun i => frozen_of_row _ _ _ _ _ (unhide HI2).b2
      go_wp2_with fail
      refine bodyPost_ret (results_ctO rfl _ _ _ _ _ _ _ rfl (set9_heap (unhide HI2).b2 _ _ _ _ _ _ _ _ _) Tryz.underlying27 rfl (by kernel_rfl)) rfl ?_
      exact rread_no (unhide HI2).bw (Nat.le_refl _) (unhide HNO) _ _ _ _ _ _ _ _ _ _ _ _ _
    have hJl := hr.le
    obtain ⟨J, hJ⟩ : ∃ J, J = k2 + s.length := ⟨_, rfl⟩
    have HT2 := took_text (brk := false) hr
    have HSLEN : Hid (s.length ≤ 400) := by have := hr.most; show s.length ≤ 400; omega
    rw [← hJ] at hJl HT2 ⊢
    obtain ⟨P2, hP2⟩ : ∃ Y9, Y9 = P + J := ⟨_, rfl⟩
    rw [List.drop_drop, ← hP2] at HT2
    rw [List.length_drop, unhide HBL] at hJl
    have hP2n : P2 ≤ n := by omega
    have hPi : ((P : Nat) : Int) + ((J : Nat) : Int) = ((P2 : Nat) : Int) := by omega
    have HT2 := hide HT2
    have HJ3 : Hid (OpD w w.heap.size w1.heap.size #[.int .u8 ((N : Nat) : Int), .string ⟨s.toArray⟩, .int .i64 0, .int .u8 0, .int .i64 0, .string ⟨#[]⟩, .slice none 0 0, .slice none 0 0, .int .i64 0] (w2.setCell ⟨w1.heap.size, 1, none⟩ (.string ⟨s.toArray⟩))) := ((unhide HI2).set 1 _)
    obtain ⟨x3, hx3⟩ : ∃ X, X = (w2.setCell ⟨w1.heap.size, 1, none⟩ (.string ⟨s.toArray⟩)) := ⟨_, rfl⟩
    rw [← hx3] at HJ3
    have HX := hide hx3
    obtain ⟨⟨c0, c1, c2, c3, c4, c5, c6, c7, c8⟩, fz⟩ := (unhide HI2).cells
    have f1 := fz 1
    clear hx3 hJl hP2 HC q2 hr hJ
    go_upto_region 20 with fail
    rw [← unhide HX]
    clear HX c0 c1 c2 c3 c4 c5 c6 c7 c8 fz f1 
    clear q1
    obtain ⟨te, hte⟩ : ∃ te, te = decide (P2 = n) := ⟨_, rfl⟩
    have hen : (((P2 : Nat) : Int) == ((n : Nat) : Int)) = te := by rw [hte, Bool.eq_iff_iff, beq_iff_eq, decide_eq_true_eq]; omega
    have HTE := hide hte
    clear hte
    obtain ⟨⟨c0, c1, c2, c3, c4, c5, c6, c7, c8⟩, fz⟩ := (unhide HJ3).cells
    obtain ⟨m0, m1, m2, m3, m4, m5, m6, m7, m8⟩ := cells9 (unhide HJ3).b2
    have fm : ∀ i, World.frozen? x3 ⟨w.heap.size, i, none⟩ = false := fun i => frozen_of_row _ _ _ _ _ (unhide HJ3).b2
    go_wp2_with fail
    refine bodyPost_ret (results_ctO rfl _ _ _ _ _ _ _ rfl (set9_heap (unhide HJ3).b2 _ _ _ _ _ _ _ _ _) Tryz.underlying27 rfl (by kernel_rfl)) rfl ?_
    exact rread_done (o := ⟨N, s, 0, zeroD, [], 0⟩) (k := P2) (n := n) (unhide HJ3) (unhide HBL) (by omega) (read_2 (unhide HHN) (unhide HT1) (unhide HT2)) (unhide HTE) rfl rfl rfl rfl (⟨by have := unhide HN5; show N < 256; omega, by have := unhide HSLEN; unfold maxLen; show s.length ≤ _; omega, by show InR 0; unfold InR; omega, by show InR 0; unfold InR; omega⟩) (zero_at _ _) (FragAt.nil _ _) (by show zeroD.parts ≤ 1000000 ∧ zeroD.deep ≤ 1000; decide) (⟨Nat.zero_le _, fun y hy => by cases hy⟩) (by have := unhide HSLEN; show s.length ≤ _; omega)
  · have HHN := hide hN
    have e1 : (((N : Nat) : Int) == 1) = false := by rw [beq_eq_false_iff_ne]; omega
    have e3 : (((N : Nat) : Int) == 3) = true := by rw [beq_iff_eq]; omega
    clear hN
    obtain ⟨sa, sc, q1, q2, hB⟩ := unhide HSL w2 (unhide HI2).bw P hPn
    have HC := hide (wRefTakeText_any (.slice sa (n - P) sc) (bs.drop P) 400 w2 hB (by have := unhide HBL; rw [List.length_drop]; omega) (by unfold InR; omega))
    clear hB
    go_wp2_with fail
    refine (unhide HC).mono ?_
    rintro e w9 ⟨ht, hw⟩
    rw [hw]
    clear hw w9
    rcases ht.symm with ⟨hN, rfl⟩ | ⟨s, k2, hr, rfl⟩
    · have HNO : Hid (NoOp bs) := (read_3P (P := InR) (fun _ _ h => h) (unhide HHN) (unhide HT1) (took_noText (s := []) (t := []) hN) (Took.broken (P := InR) (enc := numB) (bs := []) (x := 0) (bs' := [])) (Took.broken (P := PVal) (enc := VD.bytes) (bs := []) (x := zeroD) (bs' := [])) (Took.broken (P := PFrag) (enc := bytesF) (bs := []) (x := []) (bs' := []))).none
      clear hN
      clear q1 q2
      obtain ⟨⟨c0, c1, c2, c3, c4, c5, c6, c7, c8⟩, fz⟩ := (unhide HI2).cells
      obtain ⟨m0, m1, m2, m3, m4, m5, m6, m7, m8⟩ := cells9 (unhide HI2).b2
      have fm : ∀ i, World.frozen? w2 ⟨w.heap.size, i, none⟩ = false := fun i => frozen_of_row _ _ _ _ _ (unhide HI2).b2
      go_wp2_with fail
      refine bodyPost_ret (results_ctO rfl _ _ _ _ _ _ _ rfl (set9_heap (unhide HI2).b2 _ _ _ _ _ _ _ _ _) Tryz.underlying27 rfl (by kernel_rfl)) rfl ?_
      exact rread_no (unhide HI2).bw (Nat.le_refl _) (unhide HNO) _ _ _ _ _ _ _ _ _ _ _ _ _
    have hJl := hr.le
    obtain ⟨J, hJ⟩ : ∃ J, J = k2 + s.length := ⟨_, rfl⟩
    have HT2 := took_text (brk := false) hr
    have HSLEN : Hid (s.length ≤ 400) := by have := hr.most; show s.length ≤ 400; omega
    rw [← hJ] at hJl HT2 ⊢
    obtain ⟨P2, hP2⟩ : ∃ Y9, Y9 = P + J := ⟨_, rfl⟩
    rw [List.drop_drop, ← hP2] at HT2
    rw [List.length_drop, unhide HBL] at hJl
    have hP2n : P2 ≤ n := by omega
    have hPi : ((P : Nat) : Int) + ((J : Nat) : Int) = ((P2 : Nat) : Int) := by omega
    have HT2 := hide HT2
    have HJ3 : Hid (OpD w w.heap.size w1.heap.size #[.int .u8 ((N : Nat) : Int), .string ⟨s.toArray⟩, .int .i64 0, .int .u8 0, .int .i64 0, .string ⟨#[]⟩, .slice none 0 0, .slice none 0 0, .int .i64 0] (w2.setCell ⟨w1.heap.size, 1, none⟩ (.string ⟨s.toArray⟩))) := ((unhide HI2).set 1 _)
    obtain ⟨x3, hx3⟩ : ∃ X, X = (w2.setCell ⟨w1.heap.size, 1, none⟩ (.string ⟨s.toArray⟩)) := ⟨_, rfl⟩
    rw [← hx3] at HJ3
    have HX := hide hx3
    obtain ⟨⟨c0, c1, c2, c3, c4, c5, c6, c7, c8⟩, fz⟩ := (unhide HI2).cells
    have f1 := fz 1
    clear hx3 hJl hP2 HC q2 hr hJ
    go_upto_region 22 with fail
    rw [← unhide HX]
    clear HX c0 c1 c2 c3 c4 c5 c6 c7 c8 fz f1 
    clear q1
    obtain ⟨sa, sc, q1, q2, hB⟩ := unhide HSL x3 (unhide HJ3).bw P2 hP2n
    have HC := hide (wRefTakeNum_any (.slice sa (n - P2) sc) (bs.drop P2) x3 hB (by have := unhide HBL; rw [List.length_drop]; omega))
    clear hB
    go_wp2_with fail
    refine (unhide HC).mono ?_
    rintro e w9 ⟨ht, hw⟩
    rw [hw]
    clear hw w9
    rcases ht.symm with ⟨hN, rfl⟩ | ⟨k, J, hr, rfl⟩
    · have HNO : Hid (NoOp bs) := (read_3P (P := InR) (fun _ _ h => h) (unhide HHN) (unhide HT1) (unhide HT2) (took_noNum (x := 0) (s := []) (fun _ h => h) hN) (Took.broken (P := PVal) (enc := VD.bytes) (bs := []) (x := zeroD) (bs' := [])) (Took.broken (P := PFrag) (enc := bytesF) (bs := []) (x := []) (bs' := []))).none
      clear hN
      clear q1 q2
      obtain ⟨⟨c0, c1, c2, c3, c4, c5, c6, c7, c8⟩, fz⟩ := (unhide HJ3).cells
      obtain ⟨m0, m1, m2, m3, m4, m5, m6, m7, m8⟩ := cells9 (unhide HJ3).b2
      have fm : ∀ i, World.frozen? x3 ⟨w.heap.size, i, none⟩ = false := fun i => frozen_of_row _ _ _ _ _ (unhide HJ3).b2
      go_wp2_with fail
      refine bodyPost_ret (results_ctO rfl _ _ _ _ _ _ _ rfl (set9_heap (unhide HJ3).b2 _ _ _ _ _ _ _ _ _) Tryz.underlying27 rfl (by kernel_rfl)) rfl ?_
      exact rread_no (unhide HJ3).bw (Nat.le_refl _) (unhide HNO) _ _ _ _ _ _ _ _ _ _ _ _ _
    have hJl := hr.le
    have hJ0 : (((J : Nat) : Int) == 0) = false := by rw [beq_eq_false_iff_ne]; have := hr.pos; omega
    have HT3 := took_num (P := InR) (brk := false) hr hr.inr
    have HKR := hide hr.inr
    obtain ⟨P3, hP3⟩ : ∃ Y9, Y9 = P2 + J := ⟨_, rfl⟩
    rw [List.drop_drop, ← hP3] at HT3
    rw [List.length_drop, unhide HBL] at hJl
    have hP3n : P3 ≤ n := by omega
    have hPi : ((P2 : Nat) : Int) + ((J : Nat) : Int) = ((P3 : Nat) : Int) := by omega
    have HT3 := hide HT3
    have HJ4 : Hid (OpD w w.heap.size w1.heap.size #[.int .u8 ((N : Nat) : Int), .string ⟨s.toArray⟩, .int .i64 k, .int .u8 0, .int .i64 0, .string ⟨#[]⟩, .slice none 0 0, .slice none 0 0, .int .i64 0] (x3.setCell ⟨w1.heap.size, 2, none⟩ (.int .i64 k))) := ((unhide HJ3).set 2 _)
    obtain ⟨x4, hx4⟩ : ∃ X, X = (x3.setCell ⟨w1.heap.size, 2, none⟩ (.int .i64 k)) := ⟨_, rfl⟩
    rw [← hx4] at HJ4
    have HX := hide hx4
    obtain ⟨⟨c0, c1, c2, c3, c4, c5, c6, c7, c8⟩, fz⟩ := (unhide HJ3).cells
    have f2 := fz 2
    clear hx4 hJl hP3 HC q2 hr
    go_upto_region 27 with fail
    rw [← unhide HX]
    clear HX c0 c1 c2 c3 c4 c5 c6 c7 c8 fz f2 
    clear q1
    obtain ⟨sa, sc, q1, q2, hB⟩ := unhide HSL x4 (unhide HJ4).bw P3 hP3n
    have HC := hide (vRefTake_any sa (n - P3) sc (bs.drop P3) x4 hB (by omega))
    clear hB
    go_wp2_with fail
    refine (unhide HC).mono ?_
    rintro e w5 ⟨ht, hb5⟩
    rcases ht.symm with ⟨hN, rfl⟩ | ⟨v, J, u, hr, rfl, hA⟩
    · have HNO : Hid (NoOp bs) := (read_3P (P := InR) (fun _ _ h => h) (unhide HHN) (unhide HT1) (unhide HT2) (unhide HT3) (took_noVal (v := zeroD) (s := []) hN) (Took.broken (P := PFrag) (enc := bytesF) (bs := []) (x := []) (bs' := []))).none
      clear hN
      obtain ⟨w6, hw6⟩ : ∃ w6, w6 = w5.alloc (.cells #[.int .u8 0, .int .i64 0, .string ⟨#[]⟩, .slice none 0 0] 24) := ⟨_, rfl⟩
      have hb6 : Below w5.heap.size w5 w6 := by rw [hw6]; exact (Below.refl _ _).alloc (Nat.le_refl _) _
      have HI9 := hide (((unhide HJ4).later hb5).later hb6)
      have HW6 := hide hw6
      clear hb5 hb6 hw6 q1 q2
      rw [zeroV]
      go_upto_region 29 with fail
      rw [← unhide HW6]
      clear HW6
      obtain ⟨⟨c0, c1, c2, c3, c4, c5, c6, c7, c8⟩, fz⟩ := (unhide HI9).cells
      obtain ⟨m0, m1, m2, m3, m4, m5, m6, m7, m8⟩ := cells9 (unhide HI9).b2
      have fm : ∀ i, World.frozen? w6 ⟨w.heap.size, i, none⟩ = false := fun i => frozen_of_row _ _ _ _ _ (unhide HI9).b2
      go_wp2_with fail
      refine bodyPost_ret (results_ctO rfl _ _ _ _ _ _ _ rfl (set9_heap (unhide HI9).b2 _ _ _ _ _ _ _ _ _) Tryz.underlying27 rfl (by kernel_rfl)) rfl ?_
      exact rread_no (unhide HI9).bw (Nat.le_refl _) (unhide HNO) _ _ _ _ _ _ _ _ _ _ _ _ _
    have hJl := hr.le
    have HVR := hide (vreads_isRight hr)
    have HVF := hide hr.fits
    have HT4 := took_val (brk := false) hr
    obtain ⟨K, vm, vc, VN, vz, va, rfl⟩ := hA.form
    obtain ⟨w6, hw6⟩ : ∃ w6, w6 = w5.alloc (.cells #[.int .u8 ((K : Nat) : Int), .int .i64 VN, .string vz, .slice va vm vc] 24) := ⟨_, rfl⟩
    have hb6 : Below w5.heap.size w5 w6 := by rw [hw6]; exact (Below.refl _ _).alloc (Nat.le_refl _) _
    have hr6 : w6.heap[w5.heap.size]? = some (.cells #[.int .u8 ((K : Nat) : Int), .int .i64 VN, .string vz, .slice va vm vc] 24 (0, 0)) := by rw [hw6]; exact heap_alloc_new _ _
    have HI9 := hide (((unhide HJ4).later hb5).later hb6)
    have hA6 : v.At (fun k => w1.heap.size < k) w6 (.agg #[.int .u8 ((K : Nat) : Int), .int .i64 VN, .string vz, .slice va vm vc]) := ((hA.later hb6).wider fun k hk => Nat.lt_of_lt_of_le (Array.getElem?_eq_some_iff.1 (unhide HJ4).b3).1 hk)
    have hJ0 : (((J : Nat) : Int) == 0) = false := by
      rw [beq_eq_false_iff_ne]
      have := hr.pos
      omega
    obtain ⟨⟨c40, c41, c42, c43⟩, f40, f41, f42, f43⟩ := cells4 hr6
    have HW6 := hide hw6
    clear hw6 hb5 hb6 hr6 hA
    go_upto_region 29 with fail
    rw [← unhide HW6]
    clear HW6
    obtain ⟨P4, hP4⟩ : ∃ Y9, Y9 = P3 + J := ⟨_, rfl⟩
    rw [List.drop_drop, ← hP4] at HT4
    rw [List.length_drop, unhide HBL] at hJl
    have hP4n : P4 ≤ n := by omega
    have hPi : ((P3 : Nat) : Int) + ((J : Nat) : Int) = ((P4 : Nat) : Int) := by omega
    have HT4 := hide HT4
    have HJ5 : Hid (OpD w w.heap.size w1.heap.size #[.int .u8 ((N : Nat) : Int), .string ⟨s.toArray⟩, .int .i64 k, .int .u8 ((K : Nat) : Int), .int .i64 VN, .string vz, .slice va vm vc, .slice none 0 0, .int .i64 0] ((((w6.setCell ⟨w1.heap.size, 3, none⟩ (.int .u8 ((K : Nat) : Int))).setCell ⟨w1.heap.size, 4, none⟩ (.int .i64 VN)).setCell ⟨w1.heap.size, 5, none⟩ (.string vz)).setCell ⟨w1.heap.size, 6, none⟩ (.slice va vm vc))) := (((((unhide HI9).set 3 _).set 4 _).set 5 _).set 6 _)
    have HV : Hid (v.At (fun k => w1.heap.size < k) ((((w6.setCell ⟨w1.heap.size, 3, none⟩ (.int .u8 ((K : Nat) : Int))).setCell ⟨w1.heap.size, 4, none⟩ (.int .i64 VN)).setCell ⟨w1.heap.size, 5, none⟩ (.string vz)).setCell ⟨w1.heap.size, 6, none⟩ (.slice va vm vc)) (.agg #[.int .u8 ((K : Nat) : Int), .int .i64 VN, .string vz, .slice va vm vc])) := (VD.At.set (VD.At.set (VD.At.set (VD.At.set hA6 3 _) 4 _) 5 _) 6 _)
    clear hA6
    obtain ⟨x5, hx5⟩ : ∃ X, X = ((((w6.setCell ⟨w1.heap.size, 3, none⟩ (.int .u8 ((K : Nat) : Int))).setCell ⟨w1.heap.size, 4, none⟩ (.int .i64 VN)).setCell ⟨w1.heap.size, 5, none⟩ (.string vz)).setCell ⟨w1.heap.size, 6, none⟩ (.slice va vm vc)) := ⟨_, rfl⟩
    rw [← hx5] at HJ5 HV
    have HX := hide hx5
    obtain ⟨⟨c0, c1, c2, c3, c4, c5, c6, c7, c8⟩, fz⟩ := (unhide HI9).cells
    have f3 := fz 3
    have f4 := fz 4
    have f5 := fz 5
    have f6 := fz 6
    clear hx5 hJl hP4 HC q2 hr
    go_upto_region 33 with fail
    rw [← unhide HX]
    clear HX c0 c1 c2 c3 c4 c5 c6 c7 c8 fz f3 f4 f5 f6 c40 c41 c42 c43 f40 f41 f42 f43
    clear q1
    obtain ⟨sa, sc, q1, q2, hB⟩ := unhide HSL x5 (unhide HJ5).bw P4 hP4n
    have HC := hide (rTake_any sa (n - P4) sc (bs.drop P4) x5 hB (by omega))
    clear hB
    go_wp2_with fail
    refine (unhide HC).mono ?_
    rintro e w7 ⟨l, fa, fn, fc, J, rfl, hF, hb7, hor⟩
    have HI8 := hide ((unhide HJ5).later hb7)
    rcases hor.symm with ⟨rfl, hN, -, -⟩ | ⟨hJp, -, hr⟩
    · have HNO : Hid (NoOp bs) := (read_3P (P := InR) (fun _ _ h => h) (unhide HHN) (unhide HT1) (unhide HT2) (unhide HT3) (unhide HT4) (took_noFrag (l := []) (s := []) hN) ).none
      clear hN hF hb7
      clear q1 q2
      obtain ⟨⟨c0, c1, c2, c3, c4, c5, c6, c7, c8⟩, fz⟩ := (unhide HI8).cells
      obtain ⟨m0, m1, m2, m3, m4, m5, m6, m7, m8⟩ := cells9 (unhide HI8).b2
      have fm : ∀ i, World.frozen? w7 ⟨w.heap.size, i, none⟩ = false := fun i => frozen_of_row _ _ _ _ _ (unhide HI8).b2
      go_wp2_with fail
      refine bodyPost_ret (results_ctO rfl _ _ _ _ _ _ _ rfl (set9_heap (unhide HI8).b2 _ _ _ _ _ _ _ _ _) Tryz.underlying27 rfl (by kernel_rfl)) rfl ?_
      exact rread_no (unhide HI8).bw (Nat.le_refl _) (unhide HNO) _ _ _ _ _ _ _ _ _ _ _ _ _
    have hJl : J ≤ (bs.drop P4).length := by have h1 := congrArg List.length hr.eq; rw [List.length_append] at h1; have h2 := hr.len; omega
    have HFR := hide hr.right
    have HT5 := took_frag (brk := false) hr
    have hJ0 : (((J : Nat) : Int) == 0) = false := by rw [beq_eq_false_iff_ne]; omega
    have hF7 : FragAt (fun k => w1.heap.size < k) w7 l (.slice fa fn fc) := hF.wider fun k hk => Nat.lt_of_lt_of_le (Array.getElem?_eq_some_iff.1 (unhide HJ5).b3).1 hk
    have hV7 := (unhide HV).later hb7
    clear hF
    obtain ⟨P5, hP5⟩ : ∃ Y9, Y9 = P4 + J := ⟨_, rfl⟩
    rw [List.drop_drop, ← hP5] at HT5
    rw [List.length_drop, unhide HBL] at hJl
    have hP5n : P5 ≤ n := by omega
    have hPi : ((P4 : Nat) : Int) + ((J : Nat) : Int) = ((P5 : Nat) : Int) := by omega
    have HT5 := hide HT5
    have HJ6 : Hid (OpD w w.heap.size w1.heap.size #[.int .u8 ((N : Nat) : Int), .string ⟨s.toArray⟩, .int .i64 k, .int .u8 ((K : Nat) : Int), .int .i64 VN, .string vz, .slice va vm vc, .slice fa fn fc, .int .i64 0] (w7.setCell ⟨w1.heap.size, 7, none⟩ (.slice fa fn fc))) := ((unhide HI8).set 7 _)
    have HF : Hid (FragAt (fun k => w1.heap.size < k) (w7.setCell ⟨w1.heap.size, 7, none⟩ (.slice fa fn fc)) l (.slice fa fn fc)) := (FragAt.set hF7 7 _)
    clear hF7
    have HV2 : Hid (v.At (fun k => w1.heap.size < k) (w7.setCell ⟨w1.heap.size, 7, none⟩ (.slice fa fn fc)) (.agg #[.int .u8 ((K : Nat) : Int), .int .i64 VN, .string vz, .slice va vm vc])) := (VD.At.set hV7 7 _)
    clear hV7 HV
    have HV := hide (unhide HV2)
    clear HV2
    obtain ⟨x6, hx6⟩ : ∃ X, X = (w7.setCell ⟨w1.heap.size, 7, none⟩ (.slice fa fn fc)) := ⟨_, rfl⟩
    rw [← hx6] at HJ6 HF HV
    have HX := hide hx6
    obtain ⟨⟨c0, c1, c2, c3, c4, c5, c6, c7, c8⟩, fz⟩ := (unhide HI8).cells
    have f7 := fz 7
    clear hx6 hJl hP5 HC q2 hr hJp hb7
    go_upto_region 37 with fail
    rw [← unhide HX]
    clear HX c0 c1 c2 c3 c4 c5 c6 c7 c8 fz f7 
    clear q1
    obtain ⟨te, hte⟩ : ∃ te, te = decide (P5 = n) := ⟨_, rfl⟩
    have hen : (((P5 : Nat) : Int) == ((n : Nat) : Int)) = te := by rw [hte, Bool.eq_iff_iff, beq_iff_eq, decide_eq_true_eq]; omega
    have HTE := hide hte
    clear hte
    obtain ⟨⟨c0, c1, c2, c3, c4, c5, c6, c7, c8⟩, fz⟩ := (unhide HJ6).cells
    obtain ⟨m0, m1, m2, m3, m4, m5, m6, m7, m8⟩ := cells9 (unhide HJ6).b2
    have fm : ∀ i, World.frozen? x6 ⟨w.heap.size, i, none⟩ = false := fun i => frozen_of_row _ _ _ _ _ (unhide HJ6).b2
    go_wp2_with fail
    refine bodyPost_ret (results_ctO rfl _ _ _ _ _ _ _ rfl (set9_heap (unhide HJ6).b2 _ _ _ _ _ _ _ _ _) Tryz.underlying27 rfl (by kernel_rfl)) rfl ?_
    exact rread_done (o := ⟨N, s, k, v, l, 0⟩) (k := P5) (n := n) (unhide HJ6) (unhide HBL) (by omega) (read_3P (P := InR) (fun _ _ h => h) (unhide HHN) (unhide HT1) (unhide HT2) (unhide HT3) (unhide HT4) (unhide HT5)) (unhide HTE) rfl rfl rfl rfl (⟨by have := unhide HN5; show N < 256; omega, by have := unhide HSLEN; unfold maxLen; show s.length ≤ _; omega, unhide HKR, by show InR 0; unfold InR; omega⟩) (unhide HV) (unhide HF) (by have h := unhide HVR; unfold VD.right at h; simp only [Bool.and_eq_true, decide_eq_true_eq] at h; show v.parts ≤ 1000000 ∧ v.deep ≤ 1000; omega) (rightF_small (unhide HFR)) (by have := unhide HSLEN; show s.length ≤ _; omega)
  · have HHN := hide hN
    have e1 : (((N : Nat) : Int) == 1) = false := by rw [beq_eq_false_iff_ne]; omega
    have e3 : (((N : Nat) : Int) == 3) = false := by rw [beq_eq_false_iff_ne]; omega
    have e4 : (((N : Nat) : Int) == 4) = true := by rw [beq_iff_eq]; omega
    clear hN
    obtain ⟨sa, sc, q1, q2, hB⟩ := unhide HSL w2 (unhide HI2).bw P hPn
    have HC := hide (wRefTakeText_any (.slice sa (n - P) sc) (bs.drop P) 400 w2 hB (by have := unhide HBL; rw [List.length_drop]; omega) (by unfold InR; omega))
    clear hB
    go_wp2_with fail
    refine (unhide HC).mono ?_
    rintro e w9 ⟨ht, hw⟩
    rw [hw]
    clear hw w9
    rcases ht.symm with ⟨hN, rfl⟩ | ⟨s, k2, hr, rfl⟩
    · have HNO : Hid (NoOp bs) := (read_4P (P := InR) (fun _ _ h => h) (unhide HHN) (unhide HT1) (took_noText (s := []) (t := []) hN) (Took.broken (P := InR) (enc := numB) (bs := []) (x := 0) (bs' := []))).none
      clear hN
      clear q1 q2
      obtain ⟨⟨c0, c1, c2, c3, c4, c5, c6, c7, c8⟩, fz⟩ := (unhide HI2).cells
      obtain ⟨m0, m1, m2, m3, m4, m5, m6, m7, m8⟩ := cells9 (unhide HI2).b2
      have fm : ∀ i, World.frozen? w2 ⟨w.heap.size, i, none⟩ = false := fun i => frozen_of_row _ _ _ _ _ (unhide HI2).b2
      go_wp2_with fail
      refine bodyPost_ret (results_ctO rfl _ _ _ _ _ _ _ rfl (set9_heap (unhide HI2).b2 _ _ _ _ _ _ _ _ _) Tryz.underlying27 rfl (by kernel_rfl)) rfl ?_
      exact rread_no (unhide HI2).bw (Nat.le_refl _) (unhide HNO) _ _ _ _ _ _ _ _ _ _ _ _ _
    have hJl := hr.le
    obtain ⟨J, hJ⟩ : ∃ J, J = k2 + s.length := ⟨_, rfl⟩
    have HT2 := took_text (brk := false) hr
    have HSLEN : Hid (s.length ≤ 400) := by have := hr.most; show s.length ≤ 400; omega
    rw [← hJ] at hJl HT2 ⊢
    obtain ⟨P2, hP2⟩ : ∃ Y9, Y9 = P + J := ⟨_, rfl⟩
    rw [List.drop_drop, ← hP2] at HT2
    rw [List.length_drop, unhide HBL] at hJl
    have hP2n : P2 ≤ n := by omega
    have hPi : ((P : Nat) : Int) + ((J : Nat) : Int) = ((P2 : Nat) : Int) := by omega
    have HT2 := hide HT2
    have HJ3 : Hid (OpD w w.heap.size w1.heap.size #[.int .u8 ((N : Nat) : Int), .string ⟨s.toArray⟩, .int .i64 0, .int .u8 0, .int .i64 0, .string ⟨#[]⟩, .slice none 0 0, .slice none 0 0, .int .i64 0] (w2.setCell ⟨w1.heap.size, 1, none⟩ (.string ⟨s.toArray⟩))) := ((unhide HI2).set 1 _)
    obtain ⟨x3, hx3⟩ : ∃ X, X = (w2.setCell ⟨w1.heap.size, 1, none⟩ (.string ⟨s.toArray⟩)) := ⟨_, rfl⟩
    rw [← hx3] at HJ3
    have HX := hide hx3
    obtain ⟨⟨c0, c1, c2, c3, c4, c5, c6, c7, c8⟩, fz⟩ := (unhide HI2).cells
    have f1 := fz 1
    clear hx3 hJl hP2 HC q2 hr hJ
    go_upto_region 22 with fail
    rw [← unhide HX]
    clear HX c0 c1 c2 c3 c4 c5 c6 c7 c8 fz f1 
    clear q1
    obtain ⟨sa, sc, q1, q2, hB⟩ := unhide HSL x3 (unhide HJ3).bw P2 hP2n
    have HC := hide (wRefTakeNum_any (.slice sa (n - P2) sc) (bs.drop P2) x3 hB (by have := unhide HBL; rw [List.length_drop]; omega))
    clear hB
    go_wp2_with fail
    refine (unhide HC).mono ?_
    rintro e w9 ⟨ht, hw⟩
    rw [hw]
    clear hw w9
    rcases ht.symm with ⟨hN, rfl⟩ | ⟨k, J, hr, rfl⟩
    · have HNO : Hid (NoOp bs) := (read_4P (P := InR) (fun _ _ h => h) (unhide HHN) (unhide HT1) (unhide HT2) (took_noNum (x := 0) (s := []) (fun _ h => h) hN) ).none
      clear hN
      clear q1 q2
      obtain ⟨⟨c0, c1, c2, c3, c4, c5, c6, c7, c8⟩, fz⟩ := (unhide HJ3).cells
      obtain ⟨m0, m1, m2, m3, m4, m5, m6, m7, m8⟩ := cells9 (unhide HJ3).b2
      have fm : ∀ i, World.frozen? x3 ⟨w.heap.size, i, none⟩ = false := fun i => frozen_of_row _ _ _ _ _ (unhide HJ3).b2
      go_wp2_with fail
      refine bodyPost_ret (results_ctO rfl _ _ _ _ _ _ _ rfl (set9_heap (unhide HJ3).b2 _ _ _ _ _ _ _ _ _) Tryz.underlying27 rfl (by kernel_rfl)) rfl ?_
      exact rread_no (unhide HJ3).bw (Nat.le_refl _) (unhide HNO) _ _ _ _ _ _ _ _ _ _ _ _ _
    have hJl := hr.le
    have hJ0 : (((J : Nat) : Int) == 0) = false := by rw [beq_eq_false_iff_ne]; have := hr.pos; omega
    have HT3 := took_num (P := InR) (brk := false) hr hr.inr
    have HKR := hide hr.inr
    obtain ⟨P3, hP3⟩ : ∃ Y9, Y9 = P2 + J := ⟨_, rfl⟩
    rw [List.drop_drop, ← hP3] at HT3
    rw [List.length_drop, unhide HBL] at hJl
    have hP3n : P3 ≤ n := by omega
    have hPi : ((P2 : Nat) : Int) + ((J : Nat) : Int) = ((P3 : Nat) : Int) := by omega
    have HT3 := hide HT3
    have HJ4 : Hid (OpD w w.heap.size w1.heap.size #[.int .u8 ((N : Nat) : Int), .string ⟨s.toArray⟩, .int .i64 k, .int .u8 0, .int .i64 0, .string ⟨#[]⟩, .slice none 0 0, .slice none 0 0, .int .i64 0] (x3.setCell ⟨w1.heap.size, 2, none⟩ (.int .i64 k))) := ((unhide HJ3).set 2 _)
    obtain ⟨x4, hx4⟩ : ∃ X, X = (x3.setCell ⟨w1.heap.size, 2, none⟩ (.int .i64 k)) := ⟨_, rfl⟩
    rw [← hx4] at HJ4
    have HX := hide hx4
    obtain ⟨⟨c0, c1, c2, c3, c4, c5, c6, c7, c8⟩, fz⟩ := (unhide HJ3).cells
    have f2 := fz 2
    clear hx4 hJl hP3 HC q2 hr
    go_upto_region 26 with fail
    rw [← unhide HX]
    clear HX c0 c1 c2 c3 c4 c5 c6 c7 c8 fz f2 
    clear q1
    obtain ⟨te, hte⟩ : ∃ te, te = decide (P3 = n) := ⟨_, rfl⟩
    have hen : (((P3 : Nat) : Int) == ((n : Nat) : Int)) = te := by rw [hte, Bool.eq_iff_iff, beq_iff_eq, decide_eq_true_eq]; omega
    have HTE := hide hte
    clear hte
    obtain ⟨⟨c0, c1, c2, c3, c4, c5, c6, c7, c8⟩, fz⟩ := (unhide HJ4).cells
    obtain ⟨m0, m1, m2, m3, m4, m5, m6, m7, m8⟩ := cells9 (unhide HJ4).b2
    have fm : ∀ i, World.frozen? x4 ⟨w.heap.size, i, none⟩ = false := fun i => frozen_of_row _ _ _ _ _ (unhide HJ4).b2
    go_wp2_with fail
    refine bodyPost_ret (results_ctO rfl _ _ _ _ _ _ _ rfl (set9_heap (unhide HJ4).b2 _ _ _ _ _ _ _ _ _) Tryz.underlying27 rfl (by kernel_rfl)) rfl ?_
    exact rread_done (o := ⟨N, s, k, zeroD, [], 0⟩) (k := P3) (n := n) (unhide HJ4) (unhide HBL) (by omega) (read_4P (P := InR) (fun _ _ h => h) (unhide HHN) (unhide HT1) (unhide HT2) (unhide HT3)) (unhide HTE) rfl rfl rfl rfl (⟨by have := unhide HN5; show N < 256; omega, by have := unhide HSLEN; unfold maxLen; show s.length ≤ _; omega, unhide HKR, by show InR 0; unfold InR; omega⟩) (zero_at _ _) (FragAt.nil _ _) (by show zeroD.parts ≤ 1000000 ∧ zeroD.deep ≤ 1000; decide) (⟨Nat.zero_le _, fun y hy => by cases hy⟩) (by have := unhide HSLEN; show s.length ≤ _; omega)

theorem right_small {o : OD} (h : o.right = true) : SmallF o.frag := by
  rcases OD.right_cases h with ⟨_, h, _⟩ | ⟨_, _, _, _, h, _⟩ | ⟨_, _, _, _, h, _⟩ | ⟨_, _, _, _, h, _⟩
  · exact rightF_small h
  · rw [h]; exact ⟨Nat.zero_le _, fun y hy => by cases hy⟩
  · exact rightF_small h
  · rw [h]; exact ⟨Nat.zero_le _, fun y hy => by cases hy⟩
/-- What the document's Parse tells. -/
def RParseM (w : World) (bs : List UInt8) (e : Ending) (W : World) : Prop := ∃ (o : OD) (u : Value) (ok : Bool), e = .returned (.tuple #[u, .bool ok]) ∧ o.At (fun k => w.heap.size ≤ k) W u ∧ o.Lt ∧ Below w.heap.size w W ∧ ((ok = true ∧ o.right = true ∧ bs = o.bytes) ∨ (ok = false ∧ NoOp bs ∧ o = zeroO))

set_option maxRecDepth 100000 in
set_option maxHeartbeats 4000000 in
theorem rOParse_any (a : Option Addr) (n c : Nat) (bs : List UInt8) (w : World) (h : Bytes w (.slice a n c) bs) (hn : n ≤ 1048576) : Calls Tryz.prog 16 #[.slice a n c] w (RParseM w bs) := by
  obtain ⟨w1, hw1⟩ : ∃ w1, w1 = w.alloc (.cells #[.int .u8 0, .string ⟨#[]⟩, .int .i64 0, .int .u8 0, .int .i64 0, .string ⟨#[]⟩, .slice none 0 0, .slice none 0 0, .int .i64 0] 27) := ⟨_, rfl⟩
  have hb1 : Below w.heap.size w w1 := by rw [hw1]; exact (Below.refl _ w).alloc (Nat.le_refl _) _
  have hr1 : w1.heap[w.heap.size]? = some (.cells #[.int .u8 0, .string ⟨#[]⟩, .int .i64 0, .int .u8 0, .int .i64 0, .string ⟨#[]⟩, .slice none 0 0, .slice none 0 0, .int .i64 0] 27 (0, 0)) := by rw [hw1]; exact heap_alloc_new w _
  have HC := hide (rORead_any a n c bs w1 (h.kept fun k _ hk => hb1.block k hk) hn)
  have HB1 := hide hb1
  have HR1 := hide hr1
  have HS1 := hide (Array.getElem?_eq_some_iff.1 hr1).1
  have HW1 := hide hw1
  clear h hn hb1 hr1 hw1
  go_enter Tryz.func16, Tryz.ntmps16
  go_upto_region 1 with fail
  rw [← unhide HW1]
  clear HW1
  go_wp2_with fail
  refine (unhide HC).mono ?_
  rintro e w2 ⟨o, L, sz, t, K, N, z, va, m, cc, fa, fn, fc, q, ok, rfl, hb2, hfull, hsnd⟩
  unfold OD.form9 at *
  obtain ⟨w3, hw3⟩ : ∃ w3, w3 = w2.alloc (.cells #[.int .u8 ((L : Nat) : Int), .string sz, .int .i64 t, .int .u8 ((K : Nat) : Int), .int .i64 N, .string z, .slice va m cc, .slice fa fn fc, .int .i64 q] 27) := ⟨_, rfl⟩
  have hb3 : Below w2.heap.size w2 w3 := by rw [hw3]; exact (Below.refl _ _).alloc (Nat.le_refl _) _
  have hr3 : w3.heap[w2.heap.size]? = some (.cells #[.int .u8 ((L : Nat) : Int), .string sz, .int .i64 t, .int .u8 ((K : Nat) : Int), .int .i64 N, .string z, .slice va m cc, .slice fa fn fc, .int .i64 q] 27 (0, 0)) := by rw [hw3]; exact heap_alloc_new _ _
  have hb23 : Below w1.heap.size w1 w3 := hb2.trans (hb3.mono hb2.size)
  have HB3 : Hid (Below w.heap.size w w3) := (unhide HB1).trans (hb23.mono (unhide HB1).size)
  have HG3 : Hid (w3.heap[w.heap.size]? = some (.cells #[.int .u8 0, .string ⟨#[]⟩, .int .i64 0, .int .u8 0, .int .i64 0, .string ⟨#[]⟩, .slice none 0 0, .slice none 0 0, .int .i64 0] 27 (0, 0))) := (hb23.block _ (unhide HS1)).trans (unhide HR1)
  have HR3 := hide hr3
  have HFU := hide hfull
  have HSN : Hid (ok = true → bs = o.bytes ∧ (∀ X, Below w3.heap.size w3 X → OD.Parts (fun k => w1.heap.size ≤ k) X o L sz t K N z va m cc fa fn fc q) ∧ o.Lt ∧ SmallF o.frag ∧ o.id.length ≤ 1000000) := fun h1 => by
    obtain ⟨g1, g2, g3, g4, g5⟩ := hsnd h1
    exact ⟨g1, fun X hX => (g2.later hb3).later hX, g3, g4, g5⟩
  have HW3 := hide hw3
  obtain ⟨d0, d1, d2, d3, d4, d5, d6, d7, d8⟩ := cells9 hr3
  have HNO : Hid (∀ X : World, Below w3.heap.size w3 X → NoOp bs → RParseM w bs (.returned (.tuple #[.agg #[.int .u8 0, .string ⟨#[]⟩, .int .i64 0, .int .u8 0, .int .i64 0, .string ⟨#[]⟩, .slice none 0 0, .slice none 0 0, .int .i64 0], .bool false])) (set9 X w.heap.size (.int .u8 0) (.string ⟨#[]⟩) (.int .i64 0) (.int .u8 0) (.int .i64 0) (.string ⟨#[]⟩) (.slice none 0 0) (.slice none 0 0) (.int .i64 0))) := fun X hX hN =>
    ⟨zeroO, _, false, rfl, zeroO_at _ _, zeroO_lt, set9_below ((unhide HB3).trans (hX.mono (unhide HB3).size)) (Nat.le_refl _) _ _ _ _ _ _ _ _ _, .inr ⟨rfl, hN, rfl⟩⟩
  clear hb2 hfull hsnd hb3 hr3 hb23 hw3 HC HR1 HB1
  go_upto_region 2 with fail
  rw [← unhide HW3]
  clear HW3
  cases ok with
  | false =>
    have HF := hide (unhide HNO _ (Below.refl _ _) (fun y hy e => by have := (unhide HFU y hy e).1; cases this))
    clear HNO HFU HSN
    obtain ⟨m0, m1, m2, m3, m4, m5, m6, m7, m8⟩ := cells9 (unhide HG3)
    have fm : ∀ i, w3.frozen? ⟨w.heap.size, i, none⟩ = false := fun i => frozen_of_row _ _ _ _ _ (unhide HG3)
    go_wp2_with fail
    refine bodyPost_ret (results_ctO rfl _ _ _ _ _ _ _ rfl (set9_heap (unhide HG3) _ _ _ _ _ _ _ _ _) Tryz.underlying27 rfl (by kernel_rfl)) rfl ?_
    exact unhide HF
  | true =>
  have HS := hide (unhide HSN rfl)
  clear HSN
  go_wp2_with fail
  refine (rORight_any o _ _ w3 ((unhide HS).2.1 _ (Below.refl _ _)).at (unhide HS).2.2.1 (unhide HS).2.2.2.1 (unhide HS).2.2.2.2).mono ?_
  rintro e w4 ⟨rfl, hb4⟩
  have HB4 := hide hb4
  have hg4 := (hb4.block _ (Array.getElem?_eq_some_iff.1 (unhide HG3)).1).trans (unhide HG3)
  have HG4 := hide hg4
  obtain ⟨m0, m1, m2, m3, m4, m5, m6, m7, m8⟩ := cells9 hg4
  have fm : ∀ i, w4.frozen? ⟨w.heap.size, i, none⟩ = false := fun i => frozen_of_row _ _ _ _ _ (unhide HG4)
  clear d0 d1 d2 d3 d4 d5 d6 d7 d8 hg4
  obtain ⟨d0, d1, d2, d3, d4, d5, d6, d7, d8⟩ := cells9 ((hb4.block _ (Array.getElem?_eq_some_iff.1 (unhide HR3)).1).trans (unhide HR3))
  clear hb4
  obtain ⟨rr, hrr⟩ : ∃ rr, rr = o.right := ⟨_, rfl⟩
  rw [← hrr]
  have HRR := hide hrr
  clear hrr
  cases rr with
  | false =>
    have HF := hide (unhide HNO _ (unhide HB4) (fun y hy e => by have h1 := (unhide HFU y hy e).2; have h2 := unhide HRR; rw [h1, hy.rt] at h2; cases h2))
    clear HNO HFU
    go_wp2_with fail
    refine bodyPost_ret (results_ctO rfl _ _ _ _ _ _ _ rfl (set9_heap (unhide HG4) _ _ _ _ _ _ _ _ _) Tryz.underlying27 rfl (by kernel_rfl)) rfl ?_
    exact unhide HF
  | true =>
    have HF : Hid (RParseM w bs (.returned (.tuple #[.agg #[.int .u8 ((L : Nat) : Int), .string sz, .int .i64 t, .int .u8 ((K : Nat) : Int), .int .i64 N, .string z, .slice va m cc, .slice fa fn fc, .int .i64 q], .bool true])) (set9 w4 w.heap.size (.int .u8 ((L : Nat) : Int)) (.string sz) (.int .i64 t) (.int .u8 ((K : Nat) : Int)) (.int .i64 N) (.string z) (.slice va m cc) (.slice fa fn fc) (.int .i64 q))) := by
      refine ⟨o, _, true, rfl, ?_, (unhide HS).2.2.1, set9_below ((unhide HB3).trans ((unhide HB4).mono (unhide HB3).size)) (Nat.le_refl _) _ _ _ _ _ _ _ _ _, .inl ⟨rfl, (unhide HRR).symm, (unhide HS).1⟩⟩
      exact ((unhide HS).2.1 _ (unhide HB4)).at.kept (fun k hk _ => set9_other (by have := unhide HS1; omega) _ _ _ _ _ _ _ _ _) fun k hk _ => by have := unhide HS1; omega
    clear HNO HFU
    go_wp2_with fail
    refine bodyPost_ret (results_ctO rfl _ _ _ _ _ _ _ rfl (set9_heap (unhide HG4) _ _ _ _ _ _ _ _ _) Tryz.underlying27 rfl (by kernel_rfl)) rfl ?_
    exact unhide HF

end Go.Proofs.YtdlbpbglidhlfaaGreatDoor
