/- OpTakeV, OpReadM, QuietB, ValRefC, ValImplS: our own definitions and contracts; no statement of the seat is proved here. -/
import Derived.Test.YtdlbpbglidhlfaaGreatDoorBase08
import Derived.Test.YtdlbpbglidhlfaaGreatDoorBase00
import Derived.Test.YtdlbpbglidhlfaaGreatDoorBase07
import Derived.Test.YtdlbpbglidhlfaaGreatDoorBase06
namespace Go.Proofs.YtdlbpbglidhlfaaGreatDoor
open Go.RowKit

theorem ButF.new {g k : Nat} {w X : World} (h : ButF g w X) (hk : w.heap.size ≤ k) (o : Nat) (v : Value) : ButF g w (X.setCell ⟨k, o, none⟩ v) := by
  have b := (Below.refl 0 X).setCell (p := ⟨k, o, none⟩) (Nat.zero_le _) v
  exact ⟨b.os.trans h.os, b.tape.trans h.tape, b.output.trans h.output, by rw [World.size_setCell]; exact h.size, fun j hj hn => (Below.heap_setCell _ _ _ _ (by show j ≠ k; omega)).trans (h.block j hj hn)⟩
theorem RdO.set1 {b : World} {g : Nat} {brk : Bool} {bs : List UInt8} {W : World} (h : RdO b g brk bs W) (b2 : Bool) : RdO b g b2 bs (W.setCell ⟨g, 1, none⟩ (.bool b2)) := by
  obtain ⟨h1, h2, a, n, c, h3, h4⟩ := h
  exact ⟨h1.setCell (p := ⟨g, 1, none⟩) h2 _, h2, a, n, c, heap_setCell_same _ _ _ _ _ _ h3, h4⟩
theorem RdO.cells {b : World} {g : Nat} {brk : Bool} {bs : List UInt8} {W : World} (h : RdO b g brk bs W) : ∃ (a : Option Addr) (n c : Nat), (W.cell? ⟨g, 0, none⟩ = some (.slice a n c) ∧ W.cell? ⟨g, 1, none⟩ = some (.bool brk) ∧ W.frozen? ⟨g, 0, none⟩ = false ∧ W.frozen? ⟨g, 1, none⟩ = false) ∧ bs.length = n ∧ n ≤ 1048576 := by
  obtain ⟨h1, h2, a, n, c, h3, h4, h5⟩ := h
  exact ⟨a, n, c, cells2F h3, (bytes_len h4).1, h5⟩

/-- What number tells. -/
def NumberM (b : World) (g : Nat) (most : Int) (brk : Bool) (bs : List UInt8) (w : World) (e : Ending) (W : World) : Prop := ∃ (x : Int) (brk' : Bool) (bs' : List UInt8), e = .returned (.int .i64 x) ∧ (0 ≤ x ∧ x ≤ most) ∧ RdO b g brk' bs' W ∧ ButF g w W ∧ Took (PNum most) numB brk bs x brk' bs'
set_option maxRecDepth 100000 in
set_option maxHeartbeats 2000000 in
theorem oNumber_any (b : World) (g : Nat) (most : Int) (hm0 : 0 ≤ most) (hm : most ≤ 9223372036854775807) (brk : Bool) (bs : List UInt8) (w : World) (h : RdO b g brk bs w) : Calls Tryz.prog 54 #[.pointer (some ⟨g, 0, none⟩), .int .i64 most] w (NumberM b g most brk bs w) := by
  have HT := hide (oTakeNum_any b g brk bs w h)
  have HM := hide hm
  have HM0 := hide hm0
  clear h hm hm0
  go_enter Tryz.func54, Tryz.ntmps54
  go_wp2_with fail
  refine (unhide HT).mono ?_
  rintro e w1 ⟨x, brk1, bs1, rfl, hx, hR, hU, ht⟩
  obtain ⟨a, n, c, ⟨c0, c1, f0, f1⟩, -, -⟩ := hR.cells
  have HIN : Hid (∀ y, PNum most y → InR y) := fun y hy => by
    have h1 := unhide HM
    have h2 := hy.1
    have h3 := hy.2
    unfold InR
    omega
  by_cases hr : 0 ≤ x ∧ x ≤ most
  · have p1 : ¬ x < 0 := by omega
    have p2 : ¬ x > most := by omega
    have HF : Hid (NumberM b g most brk bs w (.returned (.int .i64 x)) w1) := ⟨x, brk1, bs1, rfl, hr, hR, hU, ⟨fun hb => ⟨(ht.sound hb).1, hr, (ht.sound hb).2.2⟩, fun y r hb hy e => ht.full y r hb (unhide HIN y hy) e⟩⟩
    clear hx hR hU ht hr
    go_wp2_with fail
    go_ret
    exact unhide HF
  · have HF : Hid (NumberM b g most brk bs w (.returned (.int .i64 0)) (w1.setCell ⟨g, 1, none⟩ (.bool true))) := ⟨0, true, bs1, rfl, ⟨Int.le_refl _, unhide HM0⟩, hR.set1 true, hU.set 1 _, ⟨fun hb => (by cases hb), fun y r hb hy e => by
      have h1 := (ht.full y r hb (unhide HIN y hy) e).2.1
      have h2 := hy.1
      have h3 := hy.2
      omega⟩⟩
    clear hR hU ht
    by_cases hx0 : x < 0
    · clear hr hx
      go_wp2_with fail
      go_ret
      exact unhide HF
    · have p2 : x > most := by omega
      clear hr hx
      go_wp2_with fail
      go_ret
      exact unhide HF

/-- What take of a value tells. -/
def TakeVal (b : World) (g : Nat) (brk : Bool) (bs : List UInt8) (w : World) (e : Ending) (W : World) : Prop := ∃ (v : VD) (K m cc : Nat) (N : Int) (z : ByteArray) (va : Option Addr) (brk' : Bool) (bs' : List UInt8), e = .returned (.agg #[.int .u8 ((K : Nat) : Int), .int .i64 N, .string z, .slice va m cc]) ∧ (v.At (fun k => w.heap.size ≤ k) W (.agg #[.int .u8 ((K : Nat) : Int), .int .i64 N, .string z, .slice va m cc]) ∧ v.right = true) ∧ RdO b g brk' bs' W ∧ ButF g w W ∧ Took PVal VD.bytes brk bs v brk' bs'
theorem takeV_done {b w W0 w1 w2 : World} {g : Nat} {brk brk' : Bool} {bs bs' : List UInt8} {v : VD} {K m cc : Nat} {N : Int} {z : ByteArray} {va ra : Option Addr} {rn rc : Nat} {a : Option Addr} {n c : Nat}
    (hbw : Below b.heap.size b w) (hbg : b.heap.size ≤ g) (hg : g < w.heap.size) (h0 : W0.heap.size = w.heap.size + 1) (hb0 : Below w.heap.size w W0) (hb1 : Below W0.heap.size W0 w1) (hb2 : Below w1.heap.size w1 w2) (h3 : w2.heap[g]? = some (.cells #[.slice a n c, .bool brk] 57 (0, 0)))
    (hv : v.At (fun k => W0.heap.size ≤ k) w1 (.agg #[.int .u8 ((K : Nat) : Int), .int .i64 N, .string z, .slice va m cc])) (hr : v.right = true) (hB : Bytes b (.slice ra rn rc) bs') (hn : rn ≤ 1048576) (ht : Took PVal VD.bytes brk bs v brk' bs') :
    TakeVal b g brk bs w (.returned (.agg #[.int .u8 ((K : Nat) : Int), .int .i64 N, .string z, .slice va m cc])) ((((((w2.setCell ⟨g, 0, none⟩ (.slice ra rn rc)).setCell ⟨g, 1, none⟩ (.bool brk')).setCell ⟨w.heap.size, 0, none⟩ (.int .u8 ((K : Nat) : Int))).setCell ⟨w.heap.size, 1, none⟩ (.int .i64 N)).setCell ⟨w.heap.size, 2, none⟩ (.string z)).setCell ⟨w.heap.size, 3, none⟩ (.slice va m cc)) := by
  have hw1 : Below w.heap.size w w1 := hb0.trans (hb1.mono hb0.size)
  have hw2 : Below w.heap.size w w2 := hw1.trans (hb2.mono hw1.size)
  have hbw2 : Below b.heap.size b w2 := hbw.trans (hw2.mono hbw.size)
  obtain ⟨q1, q2⟩ := rdO_set (b2 := brk') h3 hbw2 hbg hB hn
  have hu := ((((ButF.of hw2).trans q2).new (Nat.le_refl _) 0 (.int .u8 ((K : Nat) : Int))).new (Nat.le_refl _) 1 (.int .i64 N)).new (Nat.le_refl _) 2 (.string z) |>.new (Nat.le_refl _) 3 (.slice va m cc)
  have hs1 := hb1.size
  have hs2 := hb2.size
  refine ⟨v, K, m, cc, N, z, va, brk', bs', rfl, ⟨?_, hr⟩, ?_, hu, ht⟩
  · refine (hv.later hb2).kept (fun k hk hl => ?_) (fun k hk _ => by omega)
    rw [set4_other _ _ _ _ (by omega)]
    exact q2.block k hl (by omega)
  · exact q1.kept (hu.below hbw hbg) (set4_other _ _ _ _ (by omega))
set_option maxRecDepth 100000 in
set_option maxHeartbeats 2000000 in
theorem oTakeVal_any (b : World) (g : Nat) (brk : Bool) (bs : List UInt8) (w : World) (h : RdO b g brk bs w) : Calls Tryz.prog 57 #[.pointer (some ⟨g, 0, none⟩), .func (.func 58) #[] #[]] w (TakeVal b g brk bs w) := by
  have hlt := h.lt
  obtain ⟨hbw, hbg, a, n, c, h3, h4, h5⟩ := h
  obtain ⟨W0, hW0⟩ : ∃ W0, W0 = w.alloc (.cells #[.int .u8 0, .int .i64 0, .string ⟨#[]⟩, .slice none 0 0] 24) := ⟨_, rfl⟩
  have hb0 : Below w.heap.size w W0 := by rw [hW0]; exact (Below.refl _ _).alloc (Nat.le_refl _) _
  have h0 : W0.heap.size = w.heap.size + 1 := by rw [hW0]; simp
  have hg4 : W0.heap[w.heap.size]? = some (.cells #[.int .u8 0, .int .i64 0, .string ⟨#[]⟩, .slice none 0 0] 24 (0, 0)) := by rw [hW0]; exact heap_alloc_new _ _
  have h30 := (hb0.block g hlt).trans h3
  obtain ⟨c0, c1, f0, f1⟩ := cells2F h30
  have HT := hide (oVal1_any a n c bs b W0 (hbw.trans (hb0.mono hbw.size)) h4 h5)
  have HG4 := hide hg4
  have H30 := hide h30
  have HBB : Hid (Below b.heap.size b w ∧ b.heap.size ≤ g ∧ g < w.heap.size ∧ W0.heap.size = w.heap.size + 1 ∧ Below w.heap.size w W0) := ⟨hbw, hbg, hlt, h0, hb0⟩
  have HW0 := hide hW0
  clear hbw hbg hlt h0 hb0 hg4 h3 h30 h4 h5 hW0
  go_enter Tryz.func57, Tryz.ntmps57
  go_upto_region 1 with fail
  rw [← unhide HW0]
  clear HW0
  go_wp2_with fail
  refine (unhide HT).mono ?_
  rintro e w1 ⟨v, K, m, cc, N, z, va, bs1, ra, rn, rc, er, rfl, hB, hrn, hb1, ⟨hv, hvr⟩, hO⟩
  obtain ⟨eb, he, hz, ht⟩ := hO.took (fun _ _ _ _ hx hy e => VD.bytes_prefix _ _ _ _ (OD.right_kinds hx.1) (OD.right_kinds hy.1) e) brk
  obtain ⟨w2, hw2⟩ : ∃ w2, w2 = w1.alloc (.cells #[.int .u8 ((K : Nat) : Int), .int .i64 N, .string z, .slice va m cc] 24) := ⟨_, rfl⟩
  have hb2 : Below w1.heap.size w1 w2 := by rw [hw2]; exact (Below.refl _ _).alloc (Nat.le_refl _) _
  have hg5 : w2.heap[w1.heap.size]? = some (.cells #[.int .u8 ((K : Nat) : Int), .int .i64 N, .string z, .slice va m cc] 24 (0, 0)) := by rw [hw2]; exact heap_alloc_new _ _
  have hb02 : Below W0.heap.size W0 w2 := hb1.trans (hb2.mono hb1.size)
  have h32 := (hb02.block g (by have := unhide HBB; omega)).trans (unhide H30)
  have hg42 := (hb02.block w.heap.size (by have := unhide HBB; omega)).trans (unhide HG4)
  have HX : Hid (∀ b2 : Bool, b2 = (brk || eb) → TakeVal b g brk bs w (.returned (.agg #[.int .u8 ((K : Nat) : Int), .int .i64 N, .string z, .slice va m cc])) ((((((w2.setCell ⟨g, 0, none⟩ (.slice ra rn rc)).setCell ⟨g, 1, none⟩ (.bool b2)).setCell ⟨w.heap.size, 0, none⟩ (.int .u8 ((K : Nat) : Int))).setCell ⟨w.heap.size, 1, none⟩ (.int .i64 N)).setCell ⟨w.heap.size, 2, none⟩ (.string z)).setCell ⟨w.heap.size, 3, none⟩ (.slice va m cc))) := fun b2 hb2' => by
    obtain ⟨i1, i2, i3, i4, i5⟩ := unhide HBB
    exact takeV_done i1 i2 i3 i4 i5 hb1 hb2 h32 hv hvr hB hrn (by rw [hb2']; exact ht)
  have HC3 : Hid (∀ b2 : Bool, ((w2.setCell ⟨g, 0, none⟩ (.slice ra rn rc)).setCell ⟨g, 1, none⟩ (.bool b2)).heap[w1.heap.size]? = some (.cells #[.int .u8 ((K : Nat) : Int), .int .i64 N, .string z, .slice va m cc] 24 (0, 0)) ∧ ((w2.setCell ⟨g, 0, none⟩ (.slice ra rn rc)).setCell ⟨g, 1, none⟩ (.bool b2)).heap[w.heap.size]? = some (.cells #[.int .u8 0, .int .i64 0, .string ⟨#[]⟩, .slice none 0 0] 24 (0, 0))) := fun b2 => by
    have hs := hb1.size
    have := unhide HBB
    exact ⟨by rw [Below.heap_setCell _ _ _ _ (by show w1.heap.size ≠ g; omega), Below.heap_setCell _ _ _ _ (by show w1.heap.size ≠ g; omega)]; exact hg5, by rw [Below.heap_setCell _ _ _ _ (by show w.heap.size ≠ g; omega), Below.heap_setCell _ _ _ _ (by show w.heap.size ≠ g; omega)]; exact hg42⟩
  obtain ⟨k0, k1, r0, r1⟩ := cells2F h32
  have HW2 := hide hw2
  clear hB hrn hb1 hv hvr hO ht hb2 hg5 hb02 h32 hg42 hw2 H30 HG4 c0 c1 f0 f1 HT
  go_upto_region 2 with fail
  rw [← unhide HW2]
  clear HW2
  cases brk with
  | true =>
    have HF := hide (unhide HX true rfl)
    obtain ⟨g5, g4⟩ := unhide HC3 true
    obtain ⟨w3, hw3⟩ : ∃ w3, w3 = (w2.setCell ⟨g, 0, none⟩ (.slice ra rn rc)).setCell ⟨g, 1, none⟩ (.bool true) := ⟨_, rfl⟩
    rw [← hw3] at HF g5 g4
    have HW3 := hide hw3
    have HG4 := hide g4
    obtain ⟨⟨u0, u1, u2, u3⟩, -⟩ := cells4 g5
    obtain ⟨⟨m0, m1, m2, m3⟩, n0, n1, n2, n3⟩ := cells4 g4
    clear HX HC3 hw3 g5 g4
    go_upto_region 4 with fail
    rw [← unhide HW3]
    clear HW3 k0 k1 r0 r1
    go_wp2_with fail
    refine bodyPost_ret (results_cvF rfl _ _ _ _ _ _ _ rfl (set4_heap (unhide HG4) _ _ _ _) Tryz.underlying24 rfl (by kernel_rfl)) rfl ?_
    exact unhide HF
  | false =>
    cases eb with
    | true =>
      have he2 : (er == 0) = false := hz
      have HF := hide (unhide HX true rfl)
      obtain ⟨g5, g4⟩ := unhide HC3 true
      obtain ⟨w3, hw3⟩ : ∃ w3, w3 = (w2.setCell ⟨g, 0, none⟩ (.slice ra rn rc)).setCell ⟨g, 1, none⟩ (.bool true) := ⟨_, rfl⟩
      rw [← hw3] at HF g5 g4
      have HW3 := hide hw3
      have HG4 := hide g4
      obtain ⟨⟨u0, u1, u2, u3⟩, -⟩ := cells4 g5
      obtain ⟨⟨m0, m1, m2, m3⟩, n0, n1, n2, n3⟩ := cells4 g4
      clear HX HC3 hw3 g5 g4
      go_upto_region 4 with fail
      rw [← unhide HW3]
      clear HW3 k0 k1 r0 r1
      go_wp2_with fail
      refine bodyPost_ret (results_cvF rfl _ _ _ _ _ _ _ rfl (set4_heap (unhide HG4) _ _ _ _) Tryz.underlying24 rfl (by kernel_rfl)) rfl ?_
      exact unhide HF
    | false =>
      have he2 : (er == 0) = true := hz
      have HF := hide (unhide HX false rfl)
      obtain ⟨g5, g4⟩ := unhide HC3 false
      obtain ⟨w3, hw3⟩ : ∃ w3, w3 = (w2.setCell ⟨g, 0, none⟩ (.slice ra rn rc)).setCell ⟨g, 1, none⟩ (.bool false) := ⟨_, rfl⟩
      rw [← hw3] at HF g5 g4
      have HW3 := hide hw3
      have HG4 := hide g4
      obtain ⟨⟨u0, u1, u2, u3⟩, -⟩ := cells4 g5
      obtain ⟨⟨m0, m1, m2, m3⟩, n0, n1, n2, n3⟩ := cells4 g4
      clear HX HC3 hw3 g5 g4
      go_upto_region 4 with fail
      rw [← unhide HW3]
      clear HW3 k0 k1 r0 r1
      go_wp2_with fail
      refine bodyPost_ret (results_cvF rfl _ _ _ _ _ _ _ rfl (set4_heap (unhide HG4) _ _ _ _) Tryz.underlying24 rfl (by kernel_rfl)) rfl ?_
      exact unhide HF
end Go.Proofs.YtdlbpbglidhlfaaGreatDoor

namespace Go.Proofs.YtdlbpbglidhlfaaGreatDoor
open Go.RowKit

/-- What was taken of bs0 is o, behind it bs'; or it is broken, and no operation is there. -/
structure OpOk (bs0 : List UInt8) (o : OD) (brk : Bool) (bs' : List UInt8) : Prop where
  sound : brk = false → bs0 = o.bytes ++ bs'
  full : ∀ y r, y.Good → bs0 = y.bytes ++ r → brk = false ∧ o = y ∧ bs' = r

theorem pnum_what {y : OD} (h : y.right = true) : PNum 5 ((y.what : Nat) : Int) := by
  have := OD.right_what h
  unfold PNum
  omega
theorem od_head (y : OD) : ∃ t, y.bytes = numB ((y.what : Nat) : Int) ++ t := ⟨_, rfl⟩
theorem took_what {bs0 : List UInt8} {N : Nat} {b1 : Bool} {s1 : List UInt8} (t1 : Took (PNum 5) numB false bs0 ((N : Nat) : Int) b1 s1) {y : OD} {r t : List UInt8} (hy : y.Good) (e : bs0 = y.bytes ++ r) (ht : y.bytes = numB ((y.what : Nat) : Int) ++ t) : b1 = false ∧ N = y.what ∧ s1 = t ++ r := by
  rw [ht, List.append_assoc] at e
  obtain ⟨h1, h2, h3⟩ := t1.full _ _ rfl (pnum_what hy.rt) e
  exact ⟨h1, by omega, h3⟩
theorem read_0 {bs0 : List UInt8} {b1 : Bool} {s1 : List UInt8} (t1 : Took (PNum 5) numB false bs0 ((0 : Nat) : Int) b1 s1) : OpOk bs0 ⟨0, [], 0, zeroD, [], 0⟩ b1 s1 where
  sound hb := by
    have := (t1.sound hb).2.2
    rw [this]
    unfold OD.bytes
    simp [OD.part, OD.sub, OD.has]
  full y r hy e := by
    obtain ⟨t, ht⟩ := od_head y
    have h := (took_what t1 hy e ht).2.1
    have := (OD.right_what hy.rt).1
    omega
theorem read_1 {bs0 : List UInt8} {N : Nat} (hN : N = 1) {l : List FI} {q : Int} {b1 b2 b3 : Bool} {s1 s2 s3 : List UInt8} (t1 : Took (PNum 5) numB false bs0 ((N : Nat) : Int) b1 s1) (t2 : Took PFrag bytesF b1 s1 l b2 s2) (t3 : Took (PNum 400) numB b2 s2 q b3 s3) : OpOk bs0 ⟨N, [], 0, zeroD, l, q⟩ b3 s3 where
  sound hb := by
    obtain ⟨hb2, -, e3⟩ := t3.sound hb
    obtain ⟨hb1, -, e2⟩ := t2.sound hb2
    obtain ⟨-, -, e1⟩ := t1.sound hb1
    subst hN
    rw [OD.bytes_1 rfl, e1, e2, e3]
    simp only [List.append_assoc]
    rfl
  full y r hy e := by
    obtain ⟨t, ht⟩ := od_head y
    obtain ⟨hb1, hw, e1⟩ := took_what t1 hy e ht
    have hw1 : y.what = 1 := by omega
    have ht2 : t = bytesF y.frag ++ numB y.quota := by
      have h := OD.bytes_1 hw1
      rw [ht, hw1] at h
      exact List.append_cancel_left h
    rw [ht2, List.append_assoc] at e1
    rcases OD.right_cases hy.rt with ⟨_, a1, a2, a3, a4, a5, a6⟩ | ⟨w, _⟩ | ⟨w, _⟩ | ⟨w, _⟩ <;> try omega
    obtain ⟨hb2, e2, e3⟩ := t2.full _ _ hb1 a1 e1
    obtain ⟨hb3, e4, e5⟩ := t3.full _ _ hb2 ⟨a2, a3⟩ e3
    exact ⟨hb3, OD.ext hw a4.symm a5.symm a6.symm e2 e4, e5⟩
theorem read_2 {bs0 : List UInt8} {N : Nat} (hN : N = 2 ∨ N = 5) {s : List UInt8} {b1 b2 : Bool} {s1 s2 : List UInt8} (t1 : Took (PNum 5) numB false bs0 ((N : Nat) : Int) b1 s1) (t2 : Took PText textB b1 s1 s b2 s2) : OpOk bs0 ⟨N, s, 0, zeroD, [], 0⟩ b2 s2 where
  sound hb := by
    obtain ⟨hb1, -, e2⟩ := t2.sound hb
    obtain ⟨-, -, e1⟩ := t1.sound hb1
    rcases hN with rfl | rfl
    · rw [OD.bytes_2 rfl, e1, e2, List.append_assoc]; rfl
    · rw [OD.bytes_5 rfl, e1, e2, List.append_assoc]; rfl
  full y r hy e := by
    obtain ⟨t, ht⟩ := od_head y
    obtain ⟨hb1, hw, e1⟩ := took_what t1 hy e ht
    have ht2 : t = textB y.id := by
      rcases hN with h0 | h0
      · have hw1 : y.what = 2 := by omega
        have h := OD.bytes_2 hw1
        rw [ht, hw1] at h
        exact List.append_cancel_left h
      · have hw1 : y.what = 5 := by omega
        have h := OD.bytes_5 hw1
        rw [ht, hw1] at h
        exact List.append_cancel_left h
    rw [ht2] at e1
    rcases OD.right_cases hy.rt with ⟨w, _⟩ | ⟨w, a1, a2, a3, a4, a5⟩ | ⟨w, _⟩ | ⟨w, _⟩ <;> try omega
    obtain ⟨hb2, e2, e3⟩ := t2.full _ _ hb1 (idB_len a1).2 e1
    exact ⟨hb2, OD.ext hw e2 a2.symm a3.symm a4.symm a5.symm, e3⟩
theorem read_3P {P : Int → Prop} (hPP : ∀ x, 1 ≤ x → InR x → P x) {bs0 : List UInt8} {N : Nat} (hN : N = 3) {s : List UInt8} {k : Int} {v : VD} {l : List FI} {b1 b2 b3 b4 b5 : Bool} {s1 s2 s3 s4 s5 : List UInt8} (t1 : Took (PNum 5) numB false bs0 ((N : Nat) : Int) b1 s1) (t2 : Took PText textB b1 s1 s b2 s2) (t3 : Took P numB b2 s2 k b3 s3) (t4 : Took PVal VD.bytes b3 s3 v b4 s4) (t5 : Took PFrag bytesF b4 s4 l b5 s5) : OpOk bs0 ⟨N, s, k, v, l, 0⟩ b5 s5 where
  sound hb := by
    obtain ⟨hb4, -, e5⟩ := t5.sound hb
    obtain ⟨hb3, -, e4⟩ := t4.sound hb4
    obtain ⟨hb2, -, e3⟩ := t3.sound hb3
    obtain ⟨hb1, -, e2⟩ := t2.sound hb2
    obtain ⟨-, -, e1⟩ := t1.sound hb1
    subst hN
    rw [OD.bytes_3 rfl, e1, e2, e3, e4, e5]
    simp only [List.append_assoc]
    rfl
  full y r hy e := by
    obtain ⟨t, ht⟩ := od_head y
    obtain ⟨hb1, hw, e1⟩ := took_what t1 hy e ht
    have hw1 : y.what = 3 := by omega
    have ht2 : t = textB y.id ++ (numB y.token ++ (y.value.bytes ++ bytesF y.frag)) := by
      have h := OD.bytes_3 hw1
      rw [ht, hw1] at h
      exact List.append_cancel_left h
    rw [ht2] at e1
    simp only [List.append_assoc] at e1
    rcases OD.right_cases hy.rt with ⟨w, _⟩ | ⟨w, _⟩ | ⟨w, a1, a2, a3, a4, a5⟩ | ⟨w, _⟩ <;> try omega
    obtain ⟨hb2, e2, e3⟩ := t2.full _ _ hb1 (idB_len a1).2 e1
    have htk := hy.tk
    obtain ⟨hb3, e4, e5⟩ := t3.full _ _ hb2 (hPP _ a2 htk) e3
    obtain ⟨hb4, e6, e7⟩ := t4.full _ _ hb3 ⟨a3, hy.vf⟩ e5
    obtain ⟨hb5, e8, e9⟩ := t5.full _ _ hb4 a4 e7
    exact ⟨hb5, OD.ext hw e2 e4 e6 e8 a5.symm, e9⟩
theorem read_3 {bs0 : List UInt8} {N : Nat} (hN : N = 3) {s : List UInt8} {k : Int} {v : VD} {l : List FI} {b1 b2 b3 b4 b5 : Bool} {s1 s2 s3 s4 s5 : List UInt8} (t1 : Took (PNum 5) numB false bs0 ((N : Nat) : Int) b1 s1) (t2 : Took PText textB b1 s1 s b2 s2) (t3 : Took (PNum 9223372036854775807) numB b2 s2 k b3 s3) (t4 : Took PVal VD.bytes b3 s3 v b4 s4) (t5 : Took PFrag bytesF b4 s4 l b5 s5) : OpOk bs0 ⟨N, s, k, v, l, 0⟩ b5 s5 := read_3P (fun x h1 h2 => ⟨by omega, h2.2⟩) hN t1 t2 t3 t4 t5
theorem read_4P {P : Int → Prop} (hPP : ∀ x, 1 ≤ x → InR x → P x) {bs0 : List UInt8} {N : Nat} (hN : N = 4) {s : List UInt8} {k : Int} {b1 b2 b3 : Bool} {s1 s2 s3 : List UInt8} (t1 : Took (PNum 5) numB false bs0 ((N : Nat) : Int) b1 s1) (t2 : Took PText textB b1 s1 s b2 s2) (t3 : Took P numB b2 s2 k b3 s3) : OpOk bs0 ⟨N, s, k, zeroD, [], 0⟩ b3 s3 where
  sound hb := by
    obtain ⟨hb2, -, e3⟩ := t3.sound hb
    obtain ⟨hb1, -, e2⟩ := t2.sound hb2
    obtain ⟨-, -, e1⟩ := t1.sound hb1
    subst hN
    rw [OD.bytes_4 rfl, e1, e2, e3]
    simp only [List.append_assoc]
    rfl
  full y r hy e := by
    obtain ⟨t, ht⟩ := od_head y
    obtain ⟨hb1, hw, e1⟩ := took_what t1 hy e ht
    have hw1 : y.what = 4 := by omega
    have ht2 : t = textB y.id ++ numB y.token := by
      have h := OD.bytes_4 hw1
      rw [ht, hw1] at h
      exact List.append_cancel_left h
    rw [ht2] at e1
    simp only [List.append_assoc] at e1
    rcases OD.right_cases hy.rt with ⟨w, _⟩ | ⟨w, _⟩ | ⟨w, _⟩ | ⟨w, a1, a2, a3, a4, a5⟩ <;> try omega
    obtain ⟨hb2, e2, e3⟩ := t2.full _ _ hb1 (idB_len a1).2 e1
    have htk := hy.tk
    obtain ⟨hb3, e4, e5⟩ := t3.full _ _ hb2 (hPP _ a2 htk) e3
    exact ⟨hb3, OD.ext hw e2 e4 a3.symm a4.symm a5.symm, e5⟩
theorem read_4 {bs0 : List UInt8} {N : Nat} (hN : N = 4) {s : List UInt8} {k : Int} {b1 b2 b3 : Bool} {s1 s2 s3 : List UInt8} (t1 : Took (PNum 5) numB false bs0 ((N : Nat) : Int) b1 s1) (t2 : Took PText textB b1 s1 s b2 s2) (t3 : Took (PNum 9223372036854775807) numB b2 s2 k b3 s3) : OpOk bs0 ⟨N, s, k, zeroD, [], 0⟩ b3 s3 := read_4P (fun x h1 h2 => ⟨by omega, h2.2⟩) hN t1 t2 t3

/-- An operation that is being read: its struct in the block G3, the result's in G2. -/
structure OpS (b w : World) (g : Nat) (G2 G3 : Nat) (row : Array Value) (brk : Bool) (bs : List UInt8) (W : World) : Prop where
  rd : RdO b g brk bs W
  bu : ButF g w W
  b2 : W.heap[G2]? = some (.cells #[.int .u8 0, .string ⟨#[]⟩, .int .i64 0, .int .u8 0, .int .i64 0, .string ⟨#[]⟩, .slice none 0 0, .slice none 0 0, .int .i64 0] 27 (0, 0))
  b3 : W.heap[G3]? = some (.cells row 27 (0, 0))
  l2 : w.heap.size ≤ G2
  l3 : G2 < G3
  lg : g < w.heap.size
  bw : Below b.heap.size b w
theorem OpS.but {b w W W' : World} {g G2 G3 : Nat} {row : Array Value} {brk brk' : Bool} {bs bs' : List UInt8} (h : OpS b w g G2 G3 row brk bs W) (hu : ButF g W W') (hr : RdO b g brk' bs' W') : OpS b w g G2 G3 row brk' bs' W' :=
  ⟨hr, h.bu.trans hu, (hu.block _ (Array.getElem?_eq_some_iff.1 h.b2).1 (by have := h.l2; have := h.lg; omega)).trans h.b2, (hu.block _ (Array.getElem?_eq_some_iff.1 h.b3).1 (by have := h.l2; have := h.l3; have := h.lg; omega)).trans h.b3, h.l2, h.l3, h.lg, h.bw⟩
theorem OpS.set {b w W : World} {g G2 G3 : Nat} {row : Array Value} {brk : Bool} {bs : List UInt8} (h : OpS b w g G2 G3 row brk bs W) (o : Nat) (v : Value) : OpS b w g G2 G3 (row.setIfInBounds o v) brk bs (W.setCell ⟨G3, o, none⟩ v) := by
  have l2 := h.l2
  have l3 := h.l3
  have lg := h.lg
  have lw := h.bw.size
  refine ⟨h.rd.kept (h.rd.below.setCell (p := ⟨G3, o, none⟩) (by show b.heap.size ≤ G3; omega) v) (Below.heap_setCell _ _ _ _ (by show g ≠ G3; omega)), h.bu.new (by omega) o v, (Below.heap_setCell _ _ _ _ (by show G2 ≠ G3; omega)).trans h.b2, ?_, l2, l3, lg, h.bw⟩
  exact heap_setCell_same _ _ _ _ _ _ h.b3
theorem OpS.cells {b w W : World} {g G2 G3 : Nat} {v0 v1 v2 v3 v4 v5 v6 v7 v8 : Value} {brk : Bool} {bs : List UInt8} (h : OpS b w g G2 G3 #[v0, v1, v2, v3, v4, v5, v6, v7, v8] brk bs W) : (W.cell? ⟨G3, 0, none⟩ = some v0 ∧ W.cell? ⟨G3, 1, none⟩ = some v1 ∧ W.cell? ⟨G3, 2, none⟩ = some v2 ∧ W.cell? ⟨G3, 3, none⟩ = some v3 ∧ W.cell? ⟨G3, 4, none⟩ = some v4 ∧ W.cell? ⟨G3, 5, none⟩ = some v5 ∧ W.cell? ⟨G3, 6, none⟩ = some v6 ∧ W.cell? ⟨G3, 7, none⟩ = some v7 ∧ W.cell? ⟨G3, 8, none⟩ = some v8) ∧ ∀ i, W.frozen? ⟨G3, i, none⟩ = false := ⟨cells9 h.b3, fun _ => frozen_of_row _ _ _ _ _ h.b3⟩
/-- Nine cells of a block are written. -/
def set9 (W : World) (g : Nat) (v0 v1 v2 v3 v4 v5 v6 v7 v8 : Value) : World := ((((((((W.setCell ⟨g, 0, none⟩ v0).setCell ⟨g, 1, none⟩ v1).setCell ⟨g, 2, none⟩ v2).setCell ⟨g, 3, none⟩ v3).setCell ⟨g, 4, none⟩ v4).setCell ⟨g, 5, none⟩ v5).setCell ⟨g, 6, none⟩ v6).setCell ⟨g, 7, none⟩ v7).setCell ⟨g, 8, none⟩ v8
theorem set9_heap {W : World} {g : Nat} {u0 u1 u2 u3 u4 u5 u6 u7 u8 : Value} {t : TypeId} (h : W.heap[g]? = some (.cells #[u0, u1, u2, u3, u4, u5, u6, u7, u8] t (0, 0))) (v0 v1 v2 v3 v4 v5 v6 v7 v8 : Value) :
    (set9 W g v0 v1 v2 v3 v4 v5 v6 v7 v8).heap[g]? = some (.cells #[v0, v1, v2, v3, v4, v5, v6, v7, v8] t (0, 0)) := by
  unfold set9
  have h0 := heap_setCell_same _ _ 0 _ _ v0 h
  simp only [List.setIfInBounds_toArray, List.set_cons_zero] at h0
  have h1 := heap_setCell_same _ _ 1 _ _ v1 h0
  simp only [List.setIfInBounds_toArray, List.set_cons_zero, List.set_cons_succ] at h1
  have h2 := heap_setCell_same _ _ 2 _ _ v2 h1
  simp only [List.setIfInBounds_toArray, List.set_cons_zero, List.set_cons_succ] at h2
  have h3 := heap_setCell_same _ _ 3 _ _ v3 h2
  simp only [List.setIfInBounds_toArray, List.set_cons_zero, List.set_cons_succ] at h3
  have h4 := heap_setCell_same _ _ 4 _ _ v4 h3
  simp only [List.setIfInBounds_toArray, List.set_cons_zero, List.set_cons_succ] at h4
  have h5 := heap_setCell_same _ _ 5 _ _ v5 h4
  simp only [List.setIfInBounds_toArray, List.set_cons_zero, List.set_cons_succ] at h5
  have h6 := heap_setCell_same _ _ 6 _ _ v6 h5
  simp only [List.setIfInBounds_toArray, List.set_cons_zero, List.set_cons_succ] at h6
  have h7 := heap_setCell_same _ _ 7 _ _ v7 h6
  simp only [List.setIfInBounds_toArray, List.set_cons_zero, List.set_cons_succ] at h7
  have h8 := heap_setCell_same _ _ 8 _ _ v8 h7
  simp only [List.setIfInBounds_toArray, List.set_cons_zero, List.set_cons_succ] at h8
  exact h8
theorem set9_other {k g : Nat} {W : World} (hk : k ≠ g) (v0 v1 v2 v3 v4 v5 v6 v7 v8 : Value) : (set9 W g v0 v1 v2 v3 v4 v5 v6 v7 v8).heap[k]? = W.heap[k]? := by
  unfold set9
  rw [Below.heap_setCell _ _ _ _ hk, Below.heap_setCell _ _ _ _ hk, Below.heap_setCell _ _ _ _ hk, Below.heap_setCell _ _ _ _ hk, Below.heap_setCell _ _ _ _ hk, Below.heap_setCell _ _ _ _ hk, Below.heap_setCell _ _ _ _ hk, Below.heap_setCell _ _ _ _ hk, Below.heap_setCell _ _ _ _ hk]
theorem set9_but {g0 g : Nat} {w W : World} (h : ButF g0 w W) (hg : w.heap.size ≤ g) (v0 v1 v2 v3 v4 v5 v6 v7 v8 : Value) : ButF g0 w (set9 W g v0 v1 v2 v3 v4 v5 v6 v7 v8) := by
  unfold set9
  exact (((((((((h.new hg 0 v0).new hg 1 v1).new hg 2 v2).new hg 3 v3).new hg 4 v4).new hg 5 v5).new hg 6 v6).new hg 7 v7).new hg 8 v8)

/-- What the reader's op tells. -/
def OpM (b : World) (g : Nat) (bs : List UInt8) (w : World) (e : Ending) (W : World) : Prop := ∃ (o : OD) (u : Value) (brk' : Bool) (bs' : List UInt8), e = .returned u ∧ o.At (fun k => w.heap.size ≤ k) W u ∧ o.Lt ∧ RdO b g brk' bs' W ∧ ButF g w W ∧ OpOk bs o brk' bs'
theorem op_done {b w W : World} {g G2 G3 : Nat} {brk : Bool} {bs0 bs' : List UInt8} {o : OD} {L : Nat} {s : ByteArray} {t : Int} {K : Nat} {N : Int} {z : ByteArray} {a : Option Addr} {m c : Nat} {fa : Option Addr} {fn fc : Nat} {q : Int}
    (h : OpS b w g G2 G3 #[.int .u8 ((L : Nat) : Int), .string s, .int .i64 t, .int .u8 ((K : Nat) : Int), .int .i64 N, .string z, .slice a m c, .slice fa fn fc, .int .i64 q] brk bs' W)
    (hL : L = o.what) (hs : s = ⟨o.id.toArray⟩) (ht : t = o.token) (hq : q = o.quota) (hf : o.Fits) (hv : o.value.At (fun k => G3 < k) W (.agg #[.int .u8 ((K : Nat) : Int), .int .i64 N, .string z, .slice a m c])) (hF : FragAt (fun k => G3 < k) W o.frag (.slice fa fn fc)) (hlt : o.Lt) (hok : OpOk bs0 o brk bs') :
    OpM b g bs0 w (.returned (.agg #[.int .u8 ((L : Nat) : Int), .string s, .int .i64 t, .int .u8 ((K : Nat) : Int), .int .i64 N, .string z, .slice a m c, .slice fa fn fc, .int .i64 q])) (set9 W G2 (.int .u8 ((L : Nat) : Int)) (.string s) (.int .i64 t) (.int .u8 ((K : Nat) : Int)) (.int .i64 N) (.string z) (.slice a m c) (.slice fa fn fc) (.int .i64 q)) := by
  have l2 := h.l2
  have l3 := h.l3
  have lg := h.lg
  have hu := set9_but h.bu l2 (.int .u8 ((L : Nat) : Int)) (.string s) (.int .i64 t) (.int .u8 ((K : Nat) : Int)) (.int .i64 N) (.string z) (.slice a m c) (.slice fa fn fc) (.int .i64 q)
  have hk : ∀ k, G3 < k → k < W.heap.size → (set9 W G2 (.int .u8 ((L : Nat) : Int)) (.string s) (.int .i64 t) (.int .u8 ((K : Nat) : Int)) (.int .i64 N) (.string z) (.slice a m c) (.slice fa fn fc) (.int .i64 q)).heap[k]? = W.heap[k]? := fun k hk _ => set9_other (by omega) _ _ _ _ _ _ _ _ _
  refine ⟨o, _, brk, bs', rfl, OD.Parts.at ⟨hL, hs, ht, hq, hf, ?_, ?_⟩, hlt, ?_, hu, hok⟩
  · exact hv.kept hk fun k h1 _ => by omega
  · exact hF.kept hk fun k h1 _ => by omega
  · exact h.rd.kept (hu.below h.bw h.rd.new) (set9_other (by omega) _ _ _ _ _ _ _ _ _)
theorem VD.At.set {B0 : Nat} {W : World} {v : VD} {u : Value} (h : v.At (fun k => B0 < k) W u) (o : Nat) (x : Value) : v.At (fun k => B0 < k) (W.setCell ⟨B0, o, none⟩ x) u := h.kept (fun k hk _ => Below.heap_setCell _ _ _ _ (by show k ≠ B0; omega)) (fun _ hk _ => hk)
theorem VD.At.butF {B0 g : Nat} {W W' : World} {v : VD} {u : Value} (h : v.At (fun k => B0 < k) W u) (hu : ButF g W W') (hg : g < B0) : v.At (fun k => B0 < k) W' u := h.kept (fun k hk hl => hu.block k hl (by omega)) (fun _ hk _ => hk)
theorem FragAt.set {B0 : Nat} {W : World} {l : List FI} {u : Value} (h : FragAt (fun k => B0 < k) W l u) (o : Nat) (x : Value) : FragAt (fun k => B0 < k) (W.setCell ⟨B0, o, none⟩ x) l u := h.kept (fun k hk _ => Below.heap_setCell _ _ _ _ (by show k ≠ B0; omega)) (fun _ hk _ => hk)
theorem FragAt.butF {B0 g : Nat} {W W' : World} {l : List FI} {u : Value} (h : FragAt (fun k => B0 < k) W l u) (hu : ButF g W W') (hg : g < B0) : FragAt (fun k => B0 < k) W' l u := h.kept (fun k hk hl => hu.block k hl (by omega)) (fun _ hk _ => hk)
end Go.Proofs.YtdlbpbglidhlfaaGreatDoor

namespace Go.Proofs.YtdlbpbglidhlfaaGreatDoor
open Go.RowKit

/-- A world in which all that was there in w0 is as it was. -/
def Later (w0 : World) := { W : World // Below w0.heap.size w0 W }
/-- The class of these worlds. -/
def IsLater (w0 : World) : World → Prop := fun W => ∃ x : Later w0, W = x.1
theorem Later.cell {w0 : World} {p : Addr} {v : Value} (h : w0.cell? p = some v) (x : Later w0) : x.1.cell? p = some v := (x.2.cell (World.block_lt_of_cell? _ _ h)).trans h
theorem Later.bytes {w0 : World} {u : Value} {bs : List UInt8} (h : Bytes w0 u bs) (x : Later w0) : Bytes x.1 u bs := h.kept fun k _ hk => x.2.block k hk
theorem Later.then {w0 : World} (x : Later w0) {W : World} (hb : Below x.1.heap.size x.1 W) : ∃ y : Later w0, W = y.1 := ⟨⟨W, x.2.trans (hb.mono x.2.size)⟩, rfl⟩
theorem Later.same {w0 : World} (x : Later w0) {W : World} (e : W = x.1) : ∃ y : Later w0, W = y.1 := ⟨x, e⟩
theorem wp_region_later {id : Nat} {Q : Exit → Act → World → Prop} {a : Act} {w : World} {l : List Oper} (hB : Region.lexB .any l.toArray = true)
    (h : wpQuiet Tryz.prog l.toArray (fun W => ∃ x : Later w, W = x.1) (fun a' => ∀ w', (∃ x : Later w, w' = x.1) → Q .normal a' w') l a) : (Code.region id l.toArray true).wp Tryz.prog Q a w :=
  wp_region_quiet (C := fun W => ∃ x : Later w, W = x.1) (by kernel_rfl) hB ⟨⟨_, (Below.refl _ w).drew⟩, rfl⟩ (by simpa using h)
end Go.Proofs.YtdlbpbglidhlfaaGreatDoor

namespace Go.Proofs.YtdlbpbglidhlfaaGreatDoor
open Go.RowKit

set_option maxRecDepth 100000 in
set_option maxHeartbeats 2000000 in
theorem vRefRight_any (v : VD) (B : Nat → Prop) (u : Value) (w : World) (hA : v.At B w u) (hm : v.parts ≤ 1000000) : Calls Tryz.prog 22 #[u] w fun e w' => e = .returned (.bool v.right) ∧ Below w.heap.size w w' := by
  have hA0 := hA
  obtain ⟨a, c, rfl, hlc, hbox⟩ := hA.box
  have HBX := hide (hbox 24)
  have HB1 : Hid (Below w.heap.size w (w.alloc (.cells #[.int .u8 ((v.k : Nat) : Int), .int .i64 v.n, .string ⟨v.s.toArray⟩, .slice a v.l.length c] 24))) := (Below.refl _ w).alloc (Nat.le_refl _) _
  have HA := hide hA0
  have HM := hide hm
  have HRD : Hid (v.right = (v.kinds && decide (v.deep ≤ 6) && decide (v.parts ≤ 200))) := rfl
  have HDP := hide (VD.deep_le_parts v.parts v (Nat.le_refl _))
  clear hA hA0 hbox hm
  obtain ⟨K, hK⟩ : ∃ K, K = v.k := ⟨_, rfl⟩
  obtain ⟨N, hNn⟩ : ∃ N, N = v.n := ⟨_, rfl⟩
  obtain ⟨n, hn⟩ : ∃ n, n = v.l.length := ⟨_, rfl⟩
  have c0 := (unhide HBX).c0
  have c1 := (unhide HBX).c1
  have c2 := (unhide HBX).c2
  have c3 := (unhide HBX).c3
  rw [← hK, ← hNn, ← hn] at HBX HB1 HA ⊢
  rw [← hK, ← hNn, ← hn] at c0 c1 c2 c3
  generalize (⟨v.s.toArray⟩ : ByteArray) = z at *
  clear hK hNn hn
  have HA1 := hide ((unhide HA).later (unhide HB1))
  have HC1 : Hid (∀ W, Below w.heap.size w W → Calls Tryz.prog 40 #[.agg #[.int .u8 ((K : Nat) : Int), .int .i64 N, .string z, .slice a n c]] W fun e w' => e = .returned (.bool v.kinds) ∧ Below W.heap.size W w') := fun W hW => vRefKinds_any v B _ W ((unhide HA).later hW) (unhide HM)
  have HC2 : Hid (∀ W, Below w.heap.size w W → Calls Tryz.prog 41 #[.agg #[.int .u8 ((K : Nat) : Int), .int .i64 N, .string z, .slice a n c]] W fun e w' => e = .returned (.int .i64 ((v.deep : Nat) : Int)) ∧ Below W.heap.size W w') := fun W hW => vRefDeep_any v B _ W ((unhide HA).later hW) (unhide HM)
  have HC3 : Hid (∀ W, Below w.heap.size w W → Calls Tryz.prog 42 #[.agg #[.int .u8 ((K : Nat) : Int), .int .i64 N, .string z, .slice a n c]] W fun e w' => e = .returned (.int .i64 ((v.parts : Nat) : Int)) ∧ Below W.heap.size W w') := fun W hW => vRefParts_any v B _ W ((unhide HA).later hW) (unhide HM)
  go_enter Tryz.func22, Tryz.ntmps22
  go_wp2_with fail
  refine (unhide HC1 _ (unhide HB1)).mono ?_
  rintro e w2 ⟨rfl, hb2⟩
  have HB2 := hide ((unhide HB1).trans (hb2.mono (unhide HB1).size))
  have hk : ∀ {p : Addr} {x : Value}, (w.alloc (.cells #[.int .u8 ((K : Nat) : Int), .int .i64 N, .string z, .slice a n c] 24)).cell? p = some x → w2.cell? p = some x := fun hx => (hb2.cell (World.block_lt_of_cell? _ _ hx)).trans hx
  have d0 := hk c0
  have d1 := hk c1
  have d2 := hk c2
  have d3 := hk c3
  clear hb2 c0 c1 c2 c3 hk HB1 HBX HA1
  generalize v.kinds = q at *
  cases q with
  | false =>
    go_wp2_with fail
    go_ret
    exact ⟨ret_bool (by rw [unhide HRD]; rfl), unhide HB2⟩
  | true =>
    go_wp2_with fail
    refine (unhide HC2 _ (unhide HB2)).mono ?_
    rintro e w3 ⟨rfl, hb3⟩
    have HB3 := hide ((unhide HB2).trans (hb3.mono (unhide HB2).size))
    have hk : ∀ {p : Addr} {x : Value}, w2.cell? p = some x → w3.cell? p = some x := fun hx => (hb3.cell (World.block_lt_of_cell? _ _ hx)).trans hx
    have f0 := hk d0
    have f1 := hk d1
    have f2 := hk d2
    have f3 := hk d3
    clear hb3 d0 d1 d2 d3 hk HB2
    by_cases hd : v.deep ≤ 6
    · have hdi : ((v.deep : Nat) : Int) ≤ 6 := by omega
      have HD := hide hd
      clear hd
      go_wp2_with fail
      refine (unhide HC3 _ (unhide HB3)).mono ?_
      rintro e w4 ⟨rfl, hb4⟩
      have HB4 := hide ((unhide HB3).trans (hb4.mono (unhide HB3).size))
      clear hb4 f0 f1 f2 f3 HB3
      by_cases hp : v.parts ≤ 200
      · have hpi : ((v.parts : Nat) : Int) ≤ 200 := by omega
        have HP := hide hp
        clear hp
        go_wp2_with fail
        go_ret
        exact ⟨ret_bool (by rw [unhide HRD, decide_eq_true (unhide HD), decide_eq_true (unhide HP)]; rfl), unhide HB4⟩
      · have hpi : ¬ ((v.parts : Nat) : Int) ≤ 200 := by omega
        have HP := hide hp
        clear hp
        go_wp2_with fail
        go_ret
        exact ⟨ret_bool (by rw [unhide HRD, decide_eq_false (unhide HP)]; simp; have := unhide HP; omega), unhide HB4⟩
    · have hdi : ¬ ((v.deep : Nat) : Int) ≤ 6 := by omega
      have HD := hide hd
      clear hd
      go_wp2_with fail
      go_ret
      exact ⟨ret_bool (by rw [unhide HRD, decide_eq_false (unhide HD)]; simp), unhide HB3⟩

theorem VD.same_take {l q : List VD} {j : Nat} (hl : j < l.length) (hq : j < q.length) : VD.sameL (l.take (j + 1)) (q.take (j + 1)) = (VD.sameL (l.take j) (q.take j) && (l[j]).same (q[j])) := by
  induction j generalizing l q with
  | zero =>
    match l, q, hl, hq with
    | x :: l, y :: q, _, _ => simp [VD.sameL]
  | succ j ih =>
    match l, q, hl, hq with
    | x :: l, y :: q, hl, hq =>
      have := ih (l := l) (q := q) (by simpa using hl) (by simpa using hq)
      simp only [List.take_succ_cons, VD.sameL, List.getElem_cons_succ, this, Bool.and_assoc]
theorem VD.same_false {l q : List VD} {j : Nat} (hl : j < l.length) (hq : j < q.length) (h : (l[j]).same (q[j]) = false) : VD.sameL l q = false := by
  induction j generalizing l q with
  | zero =>
    match l, q, hl, hq, h with
    | x :: l, y :: q, _, _, h =>
      have h : x.same y = false := h
      simp [VD.sameL, h]
  | succ j ih =>
    match l, q, hl, hq, h with
    | x :: l, y :: q, hl, hq, h =>
      have := ih (l := l) (q := q) (by simpa using hl) (by simpa using hq) (by simpa using h)
      simp [VD.sameL, this]
theorem VD.sameL_length {l q : List VD} (h : l.length ≠ q.length) : VD.sameL l q = false := by
  induction l generalizing q with
  | nil => cases q with
    | nil => exact absurd rfl h
    | cons y q => rfl
  | cons x l ih => cases q with
    | nil => rfl
    | cons y q => simp [VD.sameL, ih (q := q) (by simpa using h)]
theorem VD.same_mk (v w : VD) : v.same w = (decide (v.k = w.k) && decide (v.n = w.n) && decide (v.s = w.s) && VD.sameL v.l w.l) := by
  obtain ⟨k, n, s, l⟩ := v
  obtain ⟨k', n', s', l'⟩ := w
  simp only [VD.same, VD.k, VD.n, VD.s, VD.l]
  rfl

set_option maxRecDepth 100000 in
set_option maxHeartbeats 4000000 in
theorem vRefSame_any (v : VD) : ∀ (v2 : VD) (B B2 : Nat → Prop) (u u2 : Value) (w : World), v.At B w u → v2.At B2 w u2 → v.parts ≤ 1000000 → Calls Tryz.prog 30 #[u, u2] w fun e w' => e = .returned (.bool (v.same v2)) ∧ Below w.heap.size w w' := by
  induction v using VD.induct with
  | h v ih =>
    intro v2 B B2 u u2 w hA hA2 hm
    obtain ⟨a, c, rfl, hlc, hbox⟩ := hA.box
    obtain ⟨w1, hw1⟩ : ∃ w1, w1 = w.alloc (.cells #[.int .u8 ((v.k : Nat) : Int), .int .i64 v.n, .string ⟨v.s.toArray⟩, .slice a v.l.length c] 24) := ⟨_, rfl⟩
    have hB1 : Below w.heap.size w w1 := by rw [hw1]; exact (Below.refl _ w).alloc (Nat.le_refl _) _
    obtain ⟨a2, c2, rfl, hlc2, hbox2⟩ := (hA2.later hB1).box
    have hbx := hbox 24
    rw [← hw1] at hbx
    obtain ⟨w2, hw2⟩ : ∃ w2, w2 = w1.alloc (.cells #[.int .u8 ((v2.k : Nat) : Int), .int .i64 v2.n, .string ⟨v2.s.toArray⟩, .slice a2 v2.l.length c2] 24) := ⟨_, rfl⟩
    have hB2 : Below w1.heap.size w1 w2 := by rw [hw2]; exact (Below.refl _ w1).alloc (Nat.le_refl _) _
    have hbx2 := hbox2 24
    rw [← hw2] at hbx2
    have hs1 : w1.heap.size = w.heap.size + 1 := by rw [hw1]; simp
    rw [hs1] at hbx2
    have HBX := hide (hbx.later hB2)
    have HBX2 := hide hbx2
    have HB2 : Hid (Below w.heap.size w w2) := hB1.trans (hB2.mono hB1.size)
    have HM := hide hm
    have HIH := hide ih
    have HW2 := hide hw2
    rw [hw1] at HW2
    clear hA hA2 hbox hbox2 hbx hbx2 hB1 hB2 hw1 hw2 hs1 hm ih
    have HSM := hide (VD.same_mk v v2)
    have c0 := (unhide HBX).c0
    have c1 := (unhide HBX).c1
    have c2' := (unhide HBX).c2
    have c3 := (unhide HBX).c3
    have d0 := (unhide HBX2).c0
    have d1 := (unhide HBX2).c1
    have d2 := (unhide HBX2).c2
    have d3 := (unhide HBX2).c3
    have HEL := hide (unhide HBX).el
    have HEL2 := hide (unhide HBX2).el
    obtain ⟨K, hK⟩ : ∃ K, K = v.k := ⟨_, rfl⟩
    obtain ⟨N, hNn⟩ : ∃ N, N = v.n := ⟨_, rfl⟩
    obtain ⟨n, hn⟩ : ∃ n, n = v.l.length := ⟨_, rfl⟩
    obtain ⟨K2, hK2⟩ : ∃ K, K = v2.k := ⟨_, rfl⟩
    obtain ⟨N2, hN2⟩ : ∃ N, N = v2.n := ⟨_, rfl⟩
    obtain ⟨n2, hn2⟩ : ∃ n, n = v2.l.length := ⟨_, rfl⟩
    have HNL := hide hn
    have HNL2 := hide hn2
    have hn6 : n ≤ 1000000 := by have h1 := VD.partsL_length v.l; have h2 := v.parts_mk; have := unhide HM; omega
    obtain ⟨se, hse⟩ : ∃ se, se = decide (v.s = v2.s) := ⟨_, rfl⟩
    have hzz : ((⟨v.s.toArray⟩ : ByteArray).toList == (⟨v2.s.toArray⟩ : ByteArray).toList) = se := by
      rw [ByteArray.toList_eq, ByteArray.toList_eq, hse, Bool.eq_iff_iff]; simp
    rw [← hse] at HSM
    rw [← hK, ← hK2, ← hNn, ← hN2] at HSM
    rw [← hK, ← hNn, ← hn] at HW2 ⊢
    rw [← hK2, ← hN2, ← hn2] at HW2 ⊢
    rw [← hK] at c0
    rw [← hNn] at c1
    rw [← hn] at c3 hlc
    rw [← hK2] at d0
    rw [← hN2] at d1
    rw [← hn2] at d3 hlc2
    generalize (⟨v.s.toArray⟩ : ByteArray) = z at *
    generalize (⟨v2.s.toArray⟩ : ByteArray) = z2 at *
    have hzn : (z.toList != z2.toList) = !se := by rw [bne, hzz]
    clear hK hNn hn hK2 hN2 hn2 hse HBX HBX2
    go_enter Tryz.func30, Tryz.ntmps30
    go_upto_region 1 with fail
    rw [← unhide HW2]
    clear HW2
    by_cases hk : K = K2
    case neg =>
      have gk : (((K : Nat) : Int) == ((K2 : Nat) : Int)) = false := by rw [beq_eq_false_iff_ne]; omega
      have gk2 : (((K : Nat) : Int) != ((K2 : Nat) : Int)) = true := by rw [bne, gk]; rfl
      have gk3 : (K == K2) = false := beq_eq_false_iff_ne.2 hk
      have gk4 : (K != K2) = true := by rw [bne, gk3]; rfl
      have HD : Hid (v.same v2 = false) := by show _ = _; rw [unhide HSM, decide_eq_false hk]; simp
      clear hk
      go_wp2_with fail
      go_ret
      exact ⟨ret_bool (unhide HD).symm, unhide HB2⟩
    have gk : (((K : Nat) : Int) == ((K2 : Nat) : Int)) = true := by rw [beq_iff_eq]; omega
    have gk2 : (((K : Nat) : Int) != ((K2 : Nat) : Int)) = false := by rw [bne, gk]; rfl
    have gk3 : (K == K2) = true := beq_iff_eq.2 hk
    have gk4 : (K != K2) = false := by rw [bne, gk3]; rfl
    have HKK := hide hk
    clear hk
    by_cases hn : N = N2
    case neg =>
      have gn : (N == N2) = false := beq_eq_false_iff_ne.2 hn
      have gn2 : (N != N2) = true := by rw [bne, gn]; rfl
      have HD : Hid (v.same v2 = false) := by show _ = _; rw [unhide HSM, decide_eq_false hn]; simp
      clear hn
      go_wp2_with fail
      go_ret
      exact ⟨ret_bool (unhide HD).symm, unhide HB2⟩
    have gn : (N == N2) = true := beq_iff_eq.2 hn
    have gn2 : (N != N2) = false := by rw [bne, gn]; rfl
    have HNE := hide hn
    clear hn
    cases se with
    | false =>
      have hzn : (z.toList != z2.toList) = true := hzn
      have HD : Hid (v.same v2 = false) := by show _ = _; rw [unhide HSM]; simp
      go_wp2_with fail
      go_ret
      exact ⟨ret_bool (unhide HD).symm, unhide HB2⟩
    | true =>
      have hzn : (z.toList != z2.toList) = false := hzn
      by_cases hl : n = n2
      case neg =>
        have gl : (((n : Nat) : Int) == ((n2 : Nat) : Int)) = false := by rw [beq_eq_false_iff_ne]; omega
        have gl2 : (((n : Nat) : Int) != ((n2 : Nat) : Int)) = true := by rw [bne, gl]; rfl
        have gl3 : (n == n2) = false := beq_eq_false_iff_ne.2 hl
        have gl4 : (n != n2) = true := by rw [bne, gl3]; rfl
        have HD : Hid (v.same v2 = false) := by show _ = _; rw [unhide HSM, VD.sameL_length (by rw [← unhide HNL, ← unhide HNL2]; exact hl)]; simp
        clear hl
        go_wp2_with fail
        go_ret
        exact ⟨ret_bool (unhide HD).symm, unhide HB2⟩
      have gl : (((n : Nat) : Int) == ((n2 : Nat) : Int)) = true := by rw [beq_iff_eq]; omega
      have gl2 : (((n : Nat) : Int) != ((n2 : Nat) : Int)) = false := by rw [bne, gl]; rfl
      have gl3 : (n == n2) = true := beq_iff_eq.2 hl
      have gl4 : (n != n2) = false := by rw [bne, gl3]; rfl
      have HLL := hide hl
      clear hl
      have HSM2 : Hid (v.same v2 = VD.sameL v.l v2.l) := by show _ = _; rw [unhide HSM, decide_eq_true (unhide HKK), decide_eq_true (unhide HNE)]; simp
      clear HSM
      go_wp2
      clear hzz hzn gk gk2 gk3 gk4 gn gn2 gl gl2 gl3 gl4 c0 c1 c2' d0 d1 d2
      go_loopw [5] (fun k W => ∃ j : Nat, j ≤ n ∧ k = .int .i64 ((j : Nat) : Int) ∧ VD.sameL (v.l.take j) (v2.l.take j) = true ∧ Below w2.heap.size w2 W) (fun k _ => n - (intOf k).toNat)
      case atStart => exact ⟨0, by omega, rfl, rfl, Below.refl _ _⟩
      case round =>
        obtain ⟨j, hj, rfl, hkt, hb⟩ := hrel
        have HB := hide hb
        have HKT := hide hkt
        have hk : ∀ {p : Addr} {x : Value}, w2.cell? p = some x → wr.cell? p = some x := fun hx => (hb.cell (World.block_lt_of_cell? _ _ hx)).trans hx
        have f3 := hk c3
        have h3 := hk d3
        by_cases hlt : j < n
        · have hji : ((j : Nat) : Int) < ((n : Nat) : Int) := by omega
          have hjl : j < v.l.length := by have := unhide HNL; omega
          have hjl2 : j < v2.l.length := by have := unhide HNL2; have := unhide HLL; omega
          have hjn2 : j < n2 := by have := unhide HLL; omega
          obtain ⟨b, o, e0, e1, e2, e3, rfl, _, x0, x1, x2, x3, he⟩ := unhide HEL j hjl
          obtain ⟨b', o', e0', e1', e2', e3', rfl, _, y0, y1, y2, y3, he'⟩ := unhide HEL2 j hjl2
          have hmem : v.l[j] ∈ v.l := List.getElem_mem hjl
          have hpl := VD.parts_lt hmem
          have HTS := hide (VD.same_take hjl hjl2)
          have HFL := hide (VD.same_false (l := v.l) (q := v2.l) hjl hjl2)
          have HC : Hid (∀ W, Below w2.heap.size w2 W → Calls Tryz.prog 30 #[.agg #[e0, e1, e2, e3], .agg #[e0', e1', e2', e3']] W fun e w' => e = .returned (.bool ((v.l[j]).same (v2.l[j]))) ∧ Below W.heap.size W w') := fun W hW => unhide HIH _ hmem _ B B2 _ _ W (he.later hW) (he'.later hW) (by have := unhide HM; omega)
          generalize (v.l[j]).same (v2.l[j]) = p at *
          have l3 := Later.cell f3
          have k3 := Later.cell h3
          have lx0 := Later.cell (hk x0)
          have lx1 := Later.cell (hk x1)
          have lx2 := Later.cell (hk x2)
          have lx3 := Later.cell (hk x3)
          have ly0 := Later.cell (hk y0)
          have ly1 := Later.cell (hk y1)
          have ly2 := Later.cell (hk y2)
          have ly3 := Later.cell (hk y3)
          have hne : Nonempty (Later wr) := ⟨⟨wr, Below.refl _ _⟩⟩
          clear he he' hpl hmem hk x0 x1 x2 x3 y0 y1 y2 y3 c3 d3 hkt hb
          go_upto_region 6 with fail
          go_cut [52] (fun v wx => v = .bool (!p) ∧ Below wr.heap.size wr wx)
          case first =>
            refine wp_region_later (by kernel_rfl) ?_
            repeat (go_big_quiet_step ((rename_i q; (go_at_call 30; refine (unhide HC _ ((unhide HB).trans (q.2.mono (unhide HB).size))).mono ?_; rintro e w11 ⟨rfl, hb11⟩; exact ⟨rfl, q.then hb11⟩))))
            refine wpQuiet_nil ?_
            rintro _ ⟨q, rfl⟩
            have HFIN : Hid (Below wr.heap.size wr q.1) := q.2
            generalize q.1 = W20 at *
            go_wp2_with fail
            go_meet
            exact ⟨rfl, unhide HFIN⟩
          obtain ⟨rfl, hbw⟩ := hcut
          have HBW := hide ((unhide HB).trans (hbw.mono (unhide HB).size))
          clear hbw l3 k3 lx0 lx1 lx2 lx3 ly0 ly1 ly2 ly3 hne f3 h3
          cases p with
          | true =>
            go_wp2_with fail
            exact ⟨⟨j + 1, by omega, by go_num, by rw [unhide HTS, unhide HKT]; rfl, unhide HBW⟩, by simp [intOf]; omega⟩
          | false =>
            have HFB := hide ((unhide HB2).trans ((unhide HBW).mono (unhide HB2).size))
            have HD : Hid (v.same v2 = false) := by show _ = _; rw [unhide HSM2]; exact unhide HFL rfl
            go_wp2_with fail
            go_ret
            exact ⟨ret_bool (unhide HD).symm, unhide HFB⟩
        · have e : j = n := by omega
          have hji : ¬ ((j : Nat) : Int) < ((n : Nat) : Int) := by omega
          have HFB := hide ((unhide HB2).trans ((unhide HB).mono (unhide HB2).size))
          have HD : Hid (v.same v2 = true) := by
            show _ = _
            rw [unhide HSM2, ← unhide HKT, List.take_of_length_le (by have := unhide HNL; omega), List.take_of_length_le (by have := unhide HNL2; have := unhide HLL; omega)]
          clear e hk hkt hb
          go_wp2
          go_ret
          exact ⟨ret_bool (unhide HD).symm, unhide HFB⟩
end Go.Proofs.YtdlbpbglidhlfaaGreatDoor

namespace Go.Proofs.YtdlbpbglidhlfaaGreatDoor
open Go.RowKit

set_option maxRecDepth 100000 in
set_option maxHeartbeats 4000000 in
theorem eqFunc_any (B B2 : Nat → Prop) (g n n2 c c2 : Nat) (a a2 : Option Addr) (l l2 : List VD) (w : World) (hn : n = l.length) (hn2 : n2 = l2.length) (hE : ∀ j (h : j < l.length), VD.Elem B w (l[j]'h) a j) (hE2 : ∀ j (h : j < l2.length), VD.Elem B2 w (l2[j]'h) a2 j) (hn6 : n ≤ 1000000)
    (hC : ∀ W, Below w.heap.size w W → ∀ j (h : j < l.length) (h2 : j < l2.length) u1 u2, (l[j]'h).At B W u1 → (l2[j]'h2).At B2 W u2 → Calls Tryz.prog 77 #[u1, u2, .pointer (some ⟨g, 0, none⟩)] W fun e w' => e = .returned (.bool ((l[j]'h).same (l2[j]'h2))) ∧ Below W.heap.size W w') :
    Calls Tryz.prog 75 #[.slice a n c, .slice a2 n2 c2, .func (.func 77) #[] #[.pointer (some ⟨g, 0, none⟩)]] w fun e w' => e = .returned (.bool (VD.sameL l l2)) ∧ Below w.heap.size w w' := by
  have HN := hide hn
  have HN2 := hide hn2
  have HE := hide hE
  have HE2 := hide hE2
  have HC0 := hide hC
  have HB0 : Hid (Below w.heap.size w w) := Below.refl _ _
  clear hn hn2 hE hE2 hC
  by_cases hl : n = n2
  case neg =>
    have gl : (((n : Nat) : Int) == ((n2 : Nat) : Int)) = false := by rw [beq_eq_false_iff_ne]; omega
    have gl2 : (((n : Nat) : Int) != ((n2 : Nat) : Int)) = true := by rw [bne, gl]; rfl
    have gl3 : (n == n2) = false := beq_eq_false_iff_ne.2 hl
    have gl4 : (n != n2) = true := by rw [bne, gl3]; rfl
    have HD : Hid (VD.sameL l l2 = false) := VD.sameL_length (by rw [← unhide HN, ← unhide HN2]; exact hl)
    clear hl
    go_enter Tryz.func75, Tryz.ntmps75
    go_wp2
    go_ret
    exact ⟨ret_bool (unhide HD).symm, unhide HB0⟩
  have gl : (((n : Nat) : Int) == ((n2 : Nat) : Int)) = true := by rw [beq_iff_eq]; omega
  have gl2 : (((n : Nat) : Int) != ((n2 : Nat) : Int)) = false := by rw [bne, gl]; rfl
  have gl3 : (n == n2) = true := beq_iff_eq.2 hl
  have gl4 : (n != n2) = false := by rw [bne, gl3]; rfl
  have HLL := hide hl
  clear hl
  go_enter Tryz.func75, Tryz.ntmps75
  go_wp2
  clear gl gl2 gl3 gl4
  go_loopw [17] (fun k W => ∃ j : Nat, j ≤ n ∧ k = .int .i64 ((j : Nat) : Int) ∧ VD.sameL (l.take j) (l2.take j) = true ∧ Below w.heap.size w W) (fun k _ => n - (intOf k).toNat)
  case atStart => exact ⟨0, by omega, rfl, rfl, unhide HB0⟩
  case round =>
    obtain ⟨j, hj, rfl, hkt, hb⟩ := hrel
    have HB := hide hb
    have HKT := hide hkt
    have hk : ∀ {p : Addr} {x : Value}, w.cell? p = some x → wr.cell? p = some x := fun hx => (hb.cell (World.block_lt_of_cell? _ _ hx)).trans hx
    by_cases hlt : j < n
    · have hji : ((j : Nat) : Int) < ((n : Nat) : Int) := by omega
      have hjl : j < l.length := by have := unhide HN; omega
      have hjl2 : j < l2.length := by have := unhide HN2; have := unhide HLL; omega
      have hjn2 : j < n2 := by have := unhide HLL; omega
      have hji2 : ((j : Nat) : Int) < ((n2 : Nat) : Int) := by omega
      obtain ⟨b, o, eK, el, ec, eN, ez, ea, rfl, _, x0, x1, x2, x3, he⟩ := (unhide HE j hjl).out
      obtain ⟨b', o', eK', el', ec', eN', ez', ea', rfl, _, y0, y1, y2, y3, he'⟩ := (unhide HE2 j hjl2).out
      have p0 := hk x0
      have p1 := hk x1
      have p2 := hk x2
      have p3 := hk x3
      obtain ⟨W4, hW4⟩ : ∃ W4, W4 = wr.alloc (.cells #[.int .u8 ((eK : Nat) : Int), .int .i64 eN, .string ez, .slice ea el ec] 24) := ⟨_, rfl⟩
      obtain ⟨W5, hW5⟩ : ∃ W5, W5 = W4.alloc (.cells #[.int .u8 ((eK' : Nat) : Int), .int .i64 eN', .string ez', .slice ea' el' ec'] 24) := ⟨_, rfl⟩
      have hb4 : Below wr.heap.size wr W4 := by rw [hW4]; exact (Below.refl _ _).alloc (Nat.le_refl _) _
      have hb45 : Below W4.heap.size W4 W5 := by rw [hW5]; exact (Below.refl _ _).alloc (Nat.le_refl _) _
      have hr4 : W4.heap[wr.heap.size]? = some (.cells #[.int .u8 ((eK : Nat) : Int), .int .i64 eN, .string ez, .slice ea el ec] 24 (0, 0)) := by rw [hW4]; exact heap_alloc_new wr _
      have hr5 : W5.heap[W4.heap.size]? = some (.cells #[.int .u8 ((eK' : Nat) : Int), .int .i64 eN', .string ez', .slice ea' el' ec'] 24 (0, 0)) := by rw [hW5]; exact heap_alloc_new W4 _
      have hb04 : Below w.heap.size w W4 := hb.trans (hb4.mono hb.size)
      have hb05 : Below w.heap.size w W5 := hb04.trans (hb45.mono hb04.size)
      have hk4 : ∀ {p : Addr} {x : Value}, w.cell? p = some x → W4.cell? p = some x := fun hx => (hb04.cell (World.block_lt_of_cell? _ _ hx)).trans hx
      have q0 := hk4 y0
      have q1 := hk4 y1
      have q2 := hk4 y2
      have q3 := hk4 y3
      have hr45 := (hb45.block _ (lt_rowV hr4)).trans hr4
      obtain ⟨⟨i0, i1, i2, i3⟩, -⟩ := cells4 hr45
      obtain ⟨⟨j0, j1, j2, j3⟩, -⟩ := cells4 hr5
      have HC : Hid (Calls Tryz.prog 77 #[.agg #[.int .u8 ((eK : Nat) : Int), .int .i64 eN, .string ez, .slice ea el ec], .agg #[.int .u8 ((eK' : Nat) : Int), .int .i64 eN', .string ez', .slice ea' el' ec'], .pointer (some ⟨g, 0, none⟩)] W5 fun e w' => e = .returned (.bool ((l[j]).same (l2[j]))) ∧ Below W5.heap.size W5 w') := unhide HC0 W5 hb05 j hjl hjl2 _ _ (he.later hb05) (he'.later hb05)
      have HTS := hide (VD.same_take hjl hjl2)
      have HFL := hide (VD.same_false (l := l) (q := l2) hjl hjl2)
      generalize (l[j]).same (l2[j]) = p at *
      have HW4 := hide hW4
      have HW5 := hide hW5
      have HB5 := hide hb05
      clear he he' hk hk4 x0 x1 x2 x3 y0 y1 y2 y3 hkt hb hb4 hb45 hr4 hr5 hr45 hb04 hb05 hW4 hW5
      go_upto_region 6 with fail
      rw [← unhide HW4]
      clear HW4 p0 p1 p2 p3
      go_upto_region 7 with fail
      rw [← unhide HW5]
      clear HW5 q0 q1 q2 q3
      go_wp2_with fail
      refine (unhide HC).mono ?_
      rintro e W6 ⟨rfl, hb6⟩
      have HB6 := hide ((unhide HB5).trans (hb6.mono (unhide HB5).size))
      clear hb6 i0 i1 i2 i3 j0 j1 j2 j3
      cases p with
      | true =>
        go_wp2_with fail
        exact ⟨⟨j + 1, by omega, by go_num, by rw [unhide HTS, unhide HKT]; rfl, unhide HB6⟩, by simp [intOf]; omega⟩
      | false =>
        have HD : Hid (VD.sameL l l2 = false) := unhide HFL rfl
        go_wp2_with fail
        go_ret
        exact ⟨ret_bool (unhide HD).symm, unhide HB6⟩
    · have e : j = n := by omega
      have hji : ¬ ((j : Nat) : Int) < ((n : Nat) : Int) := by omega
      have HD : Hid (VD.sameL l l2 = true) := by
        show _ = _
        rw [← unhide HKT, List.take_of_length_le (by have := unhide HN; omega), List.take_of_length_le (by have := unhide HN2; have := unhide HLL; omega)]
      clear e hk hkt hb
      go_wp2
      go_ret
      exact ⟨ret_bool (unhide HD).symm, unhide HB⟩
end Go.Proofs.YtdlbpbglidhlfaaGreatDoor
