/- WireOk, WireImpl, OpTake, OpTakeV, OpReadM, QuietB, ValRefC: our own definitions and contracts; no statement of the seat is proved here. -/
import Derived.Test.YtdlbpbglidhlfaaDoorBase01
import Derived.Test.YtdlbpbglidhlfaaDoorBase00
import Derived.Test.YtdlbpbglidhlfaaDoorBase04
import Derived.Test.YtdlbpbglidhlfaaDoorBase02
import Derived.Test.YtdlbpbglidhlfaaDoorBase05
import Derived.Test.YtdlbpbglidhlfaaDoorBase06
namespace Go.Proofs.YtdlbpbglidhlfaaDoor
open Go.RowKit

/-- What TakeNum tells, in memory. -/
def TookNumM (n : Nat) (bs : List UInt8) (e : Ending) (W : World) : Prop :=
  (∃ (x : Int) (k : Nat) (ra : Option Addr) (rc : Nat), Reads bs x k ∧ Bytes W (.slice ra (n - k) rc) (bs.drop k) ∧ e = .returned (.tuple #[.int .i64 x, .slice ra (n - k) rc, .int .i64 0])) ∨
  (NoNum bs ∧ e = .returned (.tuple #[.int .i64 0, .slice none 0 0, .int .i64 30]))
/-- What TakeText tells, in memory. -/
def TookTextM (n : Nat) (bs : List UInt8) (most : Int) (e : Ending) (W : World) : Prop :=
  (∃ (s : List UInt8) (k : Nat) (ra : Option Addr) (rc : Nat), ReadsT bs most s k ∧ Bytes W (.slice ra (n - k - s.length) rc) (bs.drop (k + s.length)) ∧ e = .returned (.tuple #[.string ⟨s.toArray⟩, .slice ra (n - k - s.length) rc, .int .i64 0])) ∨
  (NoText bs most ∧ e = .returned (.tuple #[.string ⟨#[]⟩, .slice none 0 0, .int .i64 30]))

structure WireOk : Prop where
  size : ∀ n w, InR n → Calls Tryd.prog 60 #[.int .i64 n] w fun e w' => e = .returned (.int .i64 ((numB n).length : Nat)) ∧ Below w.heap.size w w'
  num : ∀ u bs n w, InR n → Bytes w u bs → bs.length ≤ 1048576 → Calls Tryd.prog 33 #[u, .int .i64 n] w fun e w' => ∃ v, e = .returned v ∧ Own w v (bs ++ numB n) w'
  text : ∀ u bs s w, Bytes w u bs → bs.length ≤ 1048576 → s.length ≤ 1048576 → Calls Tryd.prog 34 #[u, .string ⟨s.toArray⟩] w fun e w' => ∃ v, e = .returned v ∧ Own w v (bs ++ textB s) w'
  takeNum : ∀ a n c bs w, Bytes w (.slice a n c) bs → n ≤ 1048576 → Calls Tryd.prog 65 #[.slice a n c] w fun e w' => TookNumM n bs e w' ∧ Below w.heap.size w w'
  takeText : ∀ a n c bs most w, Bytes w (.slice a n c) bs → n ≤ 1048576 → InR most → Calls Tryd.prog 66 #[.slice a n c, .int .i64 most] w fun e w' => TookTextM n bs most e w' ∧ Below w.heap.size w w'

set_option maxHeartbeats 400000 in
theorem wSame_any (u1 u2 : Value) (b1 b2 : List UInt8) (w : World) (h1 : Bytes w u1 b1) (h2 : Bytes w u2 b2) : Calls Tryd.prog 13 #[u1, u2] w fun e w' => e = .returned (.bool (decide (b1 = b2))) ∧ w' = w := by
  have c1 := run_convert_bytes (P := Tryd.prog) w 28 9 5 Tryd.underlying28 Tryd.underlying5 Tryd.underlying9 u1 b1 h1
  have c2 := run_convert_bytes (P := Tryd.prog) w 28 9 5 Tryd.underlying28 Tryd.underlying5 Tryd.underlying9 u2 b2 h2
  have e0 : ((⟨b1.toArray⟩ : ByteArray).toList == (⟨b2.toArray⟩ : ByteArray).toList) = decide (b1 = b2) := by
    rw [ByteArray.toList_eq, ByteArray.toList_eq, Bool.eq_iff_iff]; simp
  have HE : Hid (((⟨b1.toArray⟩ : ByteArray).toList == (⟨b2.toArray⟩ : ByteArray).toList) = decide (b1 = b2)) := e0
  clear e0 h1 h2
  generalize (⟨b1.toArray⟩ : ByteArray) = s1 at *
  generalize (⟨b2.toArray⟩ : ByteArray) = s2 at *
  go_enter Tryd.func13, Tryd.ntmps13
  go_wp2
  go_ret
  exact ⟨ret_bool HE.out, rfl⟩
theorem wSame_true (u1 u2 : Value) (bs : List UInt8) (w : World) (h1 : Bytes w u1 bs) (h2 : Bytes w u2 bs) : Calls Tryd.prog 13 #[u1, u2] w fun e w' => e = .returned (.bool true) ∧ w' = w := by
  refine (wSame_any u1 u2 bs bs w h1 h2).mono ?_
  rintro e w' ⟨rfl, hw⟩
  exact ⟨by rw [decide_eq_true rfl], hw⟩
theorem wSame_false (u1 u2 : Value) (b1 b2 : List UInt8) (w : World) (h1 : Bytes w u1 b1) (h2 : Bytes w u2 b2) (hne : b1 ≠ b2) : Calls Tryd.prog 13 #[u1, u2] w fun e w' => e = .returned (.bool false) ∧ w' = w := by
  refine (wSame_any u1 u2 b1 b2 w h1 h2).mono ?_
  rintro e w' ⟨rfl, hw⟩
  exact ⟨by rw [decide_eq_false hne], hw⟩
end Go.Proofs.YtdlbpbglidhlfaaDoor

namespace Go.Proofs.YtdlbpbglidhlfaaDoor
open Go.RowKit

theorem wireOk : WireOk where
  size := fun n w hn => size_any n hn w
  num := fun u bs n w hn h hl => wNum_any u bs n hn w h hl
  text := fun u bs s w h hl hs => wText_any u bs s w h hl hs
  takeNum := fun a n c bs w h hl => by
    refine (takeNum_any a n c bs w h hl).mono ?_
    rintro e w' ⟨ht, hb⟩
    refine ⟨?_, hb⟩
    rcases ht with ⟨x, k, hr, rfl⟩ | ⟨hN, rfl⟩
    · refine .inl ⟨x, k, _, _, hr, (h.cut ?_).laterW hb, rfl⟩
      have := hr.le
      rw [(bytes_len h).1] at this
      exact this
    · exact .inr ⟨hN, rfl⟩
  takeText := fun a n c bs most w h hl hm => by
    refine (takeText_any a n c bs most w h hl hm).mono ?_
    rintro e w' ⟨ht, hb⟩
    refine ⟨?_, hb⟩
    rcases ht with ⟨s, k, hr, rfl⟩ | ⟨hN, rfl⟩
    · have h1 := hr.le
      rw [(bytes_len h).1] at h1
      have h2 := (h.cut (k := k) (by omega)).cut (k := s.length) (by omega)
      rw [List.drop_drop] at h2
      exact .inl ⟨s, k, _, _, hr, h2.laterW hb, rfl⟩
    · exact .inr ⟨hN, rfl⟩
end Go.Proofs.YtdlbpbglidhlfaaDoor

namespace Go.Proofs.YtdlbpbglidhlfaaDoor
open Go.RowKit

/-- A reader in the block g: what is left, in the world b, and whether it is broken. -/
structure RdO (b : World) (g : Nat) (brk : Bool) (bs : List UInt8) (W : World) : Prop where
  below : Below b.heap.size b W
  new : b.heap.size ≤ g
  is : ∃ (a : Option Addr) (n c : Nat), W.heap[g]? = some (.cells #[.slice a n c, .bool brk] 52 (0, 0)) ∧ Bytes b (.slice a n c) bs ∧ n ≤ 1048576
theorem RdO.lt {b : World} {g : Nat} {brk : Bool} {bs : List UInt8} {W : World} (h : RdO b g brk bs W) : g < W.heap.size := by
  obtain ⟨_, _, a, n, c, h3, _⟩ := h
  exact (Array.getElem?_eq_some_iff.1 h3).1
theorem RdO.kept {b : World} {g : Nat} {brk : Bool} {bs : List UInt8} {W W' : World} (h : RdO b g brk bs W) (hb : Below b.heap.size b W') (hg : W'.heap[g]? = W.heap[g]?) : RdO b g brk bs W' := by
  obtain ⟨h1, h2, a, n, c, h3, h4⟩ := h
  exact ⟨hb, h2, a, n, c, hg.trans h3, h4⟩
theorem RdO.later {b : World} {g : Nat} {brk : Bool} {bs : List UInt8} {W W' : World} (h : RdO b g brk bs W) (hb : Below W.heap.size W W') : RdO b g brk bs W' :=
  h.kept (h.below.trans (hb.mono h.below.size)) (hb.block _ h.lt)

/-- What one of these takes gives: it took x of bs, behind it bs'; or there is none. -/
def OneM {α : Type} (P : α → Prop) (enc : α → List UInt8) (bs : List UInt8) (er : Int) (x : α) (bs' : List UInt8) : Prop := (er = 0 ∧ P x ∧ bs = enc x ++ bs') ∨ (er = 30 ∧ ∀ y r, P y → bs ≠ enc y ++ r)
theorem OneM.took {α : Type} {P : α → Prop} {enc : α → List UInt8} {bs : List UInt8} {er : Int} {x : α} {bs' : List UInt8} (h : OneM P enc bs er x bs') (inj : ∀ x y r q, P x → P y → enc x ++ r = enc y ++ q → x = y ∧ r = q) (brk : Bool) : ∃ e : Bool, (er != 0) = e ∧ (er == 0) = !e ∧ Took P enc brk bs x (brk || e) bs' := by
  rcases h with ⟨rfl, hP, he⟩ | ⟨rfl, hN⟩
  · exact ⟨false, rfl, rfl, by rw [Bool.or_false]; exact Took.of hP he fun y r hy e => inj x y _ _ hP hy e⟩
  · exact ⟨true, rfl, rfl, by rw [Bool.or_true]; exact Took.no hN⟩

def PText (s : List UInt8) : Prop := s.length ≤ 400
def PVal (v : VD) : Prop := v.right = true ∧ v.Fits
def PFrag (l : List FI) : Prop := rightF l = true
def PNum (most : Int) (x : Int) : Prop := 0 ≤ x ∧ x ≤ most

set_option maxHeartbeats 1000000 in
theorem oText_any (a : Option Addr) (n c : Nat) (bs : List UInt8) (b w : World) (hbw : Below b.heap.size b w) (h : Bytes b (.slice a n c) bs) (hl : n ≤ 1048576) : Calls Tryd.prog 40 #[.slice a n c] w fun e W => ∃ (s bs' : List UInt8) (ra : Option Addr) (rn rc : Nat) (er : Int), e = .returned (.tuple #[.string ⟨s.toArray⟩, .slice ra rn rc, .int .i64 er]) ∧ Bytes b (.slice ra rn rc) bs' ∧ rn ≤ 1048576 ∧ Below w.heap.size w W ∧ s.length ≤ 400 ∧ OneM PText textB bs er s bs' := by
  have HT := hide (takeText_any a n c bs 400 w (h.kept fun k _ hk => hbw.block k hk) hl (by unfold InR; omega))
  have HH := hide h
  have hbl := (bytes_len h).1
  have HBL := hide hbl
  have HL := hide hl
  clear h hl hbl hbw
  go_enter Tryd.func40, Tryd.ntmps40
  go_wp2_with fail
  refine (unhide HT).mono ?_
  rintro e W ⟨ht, hb⟩
  have HB := hide hb
  clear hb
  rcases ht with ⟨s, k, hr, rfl⟩ | ⟨hN, rfl⟩
  · have HFIN : Hid (∃ (s' bs' : List UInt8) (ra' : Option Addr) (rn' rc' : Nat) (er' : Int), Ending.returned (.tuple #[.string ⟨s.toArray⟩, .slice (wcutA (wcutA a n k) (n - k) s.length) (n - k - s.length) (n - k - s.length), .int .i64 0]) = .returned (.tuple #[.string ⟨s'.toArray⟩, .slice ra' rn' rc', .int .i64 er']) ∧ Bytes b (.slice ra' rn' rc') bs' ∧ rn' ≤ 1048576 ∧ Below w.heap.size w W ∧ s'.length ≤ 400 ∧ OneM PText textB bs er' s' bs') := by
      have hm := hr.most
      have h1 := hr.le
      rw [unhide HBL] at h1
      have h2 := ((unhide HH).cut (k := k) (by omega)).cut (k := s.length) (by omega)
      rw [List.drop_drop] at h2
      refine ⟨s, _, _, _, _, 0, rfl, h2, by have := unhide HL; omega, unhide HB, by omega, .inl ⟨rfl, ?_, hr.whole⟩⟩
      show s.length ≤ 400
      omega
    clear hr
    generalize wcutA (wcutA a n k) (n - k) s.length = ra at *
    generalize (⟨s.toArray⟩ : ByteArray) = sz at *
    generalize n - k - s.length = rn at *
    go_wp2_with fail
    go_ret3
    exact unhide HFIN
  · have HFIN : Hid (∃ (s' bs' : List UInt8) (ra' : Option Addr) (rn' rc' : Nat) (er' : Int), Ending.returned (.tuple #[.string ⟨#[]⟩, .slice none 0 0, .int .i64 30]) = .returned (.tuple #[.string ⟨s'.toArray⟩, .slice ra' rn' rc', .int .i64 er']) ∧ Bytes b (.slice ra' rn' rc') bs' ∧ rn' ≤ 1048576 ∧ Below w.heap.size w W ∧ s'.length ≤ 400 ∧ OneM PText textB bs er' s' bs') := by
      refine ⟨[], [], none, 0, 0, 30, rfl, (Own.start b).fresh.1.1, Nat.zero_le _, unhide HB, Nat.zero_le _, .inr ⟨rfl, fun y r hy e => ?_⟩⟩
      have hy4 : y.length ≤ 400 := hy
      exact hN _ _ (ReadsT.of (r := r) (by unfold InR; omega) (by omega) e)
    clear hN
    go_wp2_with fail
    go_ret3
    exact unhide HFIN
theorem oNum1_any (a : Option Addr) (n c : Nat) (bs : List UInt8) (b w : World) (hbw : Below b.heap.size b w) (h : Bytes b (.slice a n c) bs) (hl : n ≤ 1048576) : Calls Tryd.prog 65 #[.slice a n c] w fun e W => ∃ (x : Int) (bs' : List UInt8) (ra : Option Addr) (rn rc : Nat) (er : Int), e = .returned (.tuple #[.int .i64 x, .slice ra rn rc, .int .i64 er]) ∧ Bytes b (.slice ra rn rc) bs' ∧ rn ≤ 1048576 ∧ Below w.heap.size w W ∧ InR x ∧ OneM InR numB bs er x bs' := by
  refine (takeNum_any a n c bs w (h.kept fun k _ hk => hbw.block k hk) hl).mono ?_
  rintro e W ⟨ht, hb⟩
  rcases ht with ⟨x, k, hr, rfl⟩ | ⟨hN, rfl⟩
  · exact ⟨x, _, _, _, _, 0, rfl, h.cut (by have := hr.le; rw [(bytes_len h).1] at this; exact this), by omega, hb, hr.inr, .inl ⟨rfl, hr.inr, hr.eq⟩⟩
  · exact ⟨0, [], none, 0, 0, 30, rfl, (Own.start b).fresh.1.1, Nat.zero_le _, hb, by unfold InR; omega, .inr ⟨rfl, fun y r hy e => hN _ _ (Reads.of hy e)⟩⟩
theorem oVal1_any (a : Option Addr) (n c : Nat) (bs : List UInt8) (b w : World) (hbw : Below b.heap.size b w) (h : Bytes b (.slice a n c) bs) (hl : n ≤ 1048576) : Calls Tryd.prog 42 #[.slice a n c] w fun e W => ∃ (v : VD) (K m cc : Nat) (N : Int) (z : ByteArray) (va : Option Addr) (bs' : List UInt8) (ra : Option Addr) (rn rc : Nat) (er : Int), e = .returned (.tuple #[.agg #[.int .u8 ((K : Nat) : Int), .int .i64 N, .string z, .slice va m cc], .slice ra rn rc, .int .i64 er]) ∧ Bytes b (.slice ra rn rc) bs' ∧ rn ≤ 1048576 ∧ Below w.heap.size w W ∧ (v.At (fun k => w.heap.size ≤ k) W (.agg #[.int .u8 ((K : Nat) : Int), .int .i64 N, .string z, .slice va m cc]) ∧ v.right = true) ∧ OneM PVal VD.bytes bs er v bs' := by
  refine (vTakeB_any a n c bs b w hbw h hl).mono ?_
  rintro e W ⟨ht, hb⟩
  rcases ht with ⟨v, j, u, ra, rc, hv, hA, hB, rfl⟩ | ⟨hN, rfl⟩
  · obtain ⟨K, m, cc, N, z, va, rfl⟩ := hA.form
    have hrt : v.right = true := by unfold VD.right; rw [hv.kinds, decide_eq_true hv.deep, decide_eq_true hv.parts]; rfl
    exact ⟨v, K, m, cc, N, z, va, _, ra, _, rc, 0, rfl, hB, by omega, hb, ⟨hA, hrt⟩, .inl ⟨rfl, ⟨hrt, hv.fits⟩, hv.eq⟩⟩
  · refine ⟨.mk 0 0 [] [], 0, 0, 0, 0, ⟨#[]⟩, none, [], none, 0, 0, 30, rfl, (Own.start b).fresh.1.1, Nat.zero_le _, hb, ⟨?_, by decide⟩, .inr ⟨rfl, fun y r hy e => ?_⟩⟩
    · rw [VD.at_iff]
      exact ⟨none, 0, rfl, by show (0 : Nat) < 256; omega, by show InR 0; unfold InR; omega, Nat.zero_le _, Nat.le_refl _, Nat.zero_le _, fun j hj => absurd hj (Nat.not_lt_zero j)⟩
    · have hr := hy.1
      unfold VD.right at hr
      simp only [Bool.and_eq_true, decide_eq_true_eq] at hr
      exact hN _ _ (VReads.of (r := r) hr.1.1 hr.1.2 hr.2 hy.2 e)
theorem oFrag1_any (a : Option Addr) (n c : Nat) (bs : List UInt8) (b w : World) (hbw : Below b.heap.size b w) (h : Bytes b (.slice a n c) bs) (hl : n ≤ 1048576) : Calls Tryd.prog 44 #[.slice a n c] w fun e W => ∃ (l : List FI) (fa : Option Addr) (fn fc : Nat) (bs' : List UInt8) (ra : Option Addr) (rn rc : Nat) (er : Int), e = .returned (.tuple #[.slice fa fn fc, .slice ra rn rc, .int .i64 er]) ∧ Bytes b (.slice ra rn rc) bs' ∧ rn ≤ 1048576 ∧ Below w.heap.size w W ∧ FragAt (fun k => w.heap.size ≤ k) W l (.slice fa fn fc) ∧ OneM PFrag bytesF bs er l bs' := by
  refine (fTakeN_any a n c bs b w hbw h hl).mono ?_
  rintro e W ⟨l, fa, fn, fc, ra, rn, rc, er, rfl, hF, hb, ⟨rfl, j, hj, hjn, hv, hB⟩ | ⟨rfl, hN, rfl, rfl, rfl, rfl, rfl⟩⟩
  · exact ⟨l, fa, fn, fc, _, ra, rn, rc, 0, rfl, hB, by omega, hb, hF, .inl ⟨rfl, hv.1, by have h1 := hv.taken; rw [← h1]; exact (List.take_append_drop _ _).symm⟩⟩
  · exact ⟨[], fa, 0, fc, [], none, 0, 0, 30, rfl, (Own.start b).fresh.1.1, Nat.zero_le _, hb, hF, .inr ⟨rfl, fun y r hy e => hN _ _ (FReads.of hy e)⟩⟩


/-- The reader's two cells are written: what it holds then. -/
theorem rdO_set {b : World} {g : Nat} {brk b2 : Bool} {a ra : Option Addr} {n c rn rc : Nat} {bs' : List UInt8} {W : World} (h3 : W.heap[g]? = some (.cells #[.slice a n c, .bool brk] 52 (0, 0))) (hW : Below b.heap.size b W) (hg : b.heap.size ≤ g) (hB : Bytes b (.slice ra rn rc) bs') (hn : rn ≤ 1048576) : RdO b g b2 bs' ((W.setCell ⟨g, 0, none⟩ (.slice ra rn rc)).setCell ⟨g, 1, none⟩ (.bool b2)) ∧ ButF g W ((W.setCell ⟨g, 0, none⟩ (.slice ra rn rc)).setCell ⟨g, 1, none⟩ (.bool b2)) :=
  have hu := ((ButF.refl g W).set 0 (.slice ra rn rc)).set 1 (.bool b2)
  ⟨⟨hu.below hW hg, hg, ra, rn, rc, heap_setCell_same _ _ _ _ _ _ (heap_setCell_same _ _ _ _ _ _ h3), hB, hn⟩, hu⟩


/-- What take tells at this type. -/
def TakeNum (b : World) (g : Nat) (brk : Bool) (bs : List UInt8) (w : World) (e : Ending) (W : World) : Prop := ∃ (x : Int) (brk' : Bool) (bs' : List UInt8), e = .returned (.int .i64 x) ∧ InR x ∧ RdO b g brk' bs' W ∧ ButF g w W ∧ Took InR numB brk bs x brk' bs'
set_option maxRecDepth 100000 in
set_option maxHeartbeats 2000000 in
theorem oTakeNum_any (b : World) (g : Nat) (brk : Bool) (bs : List UInt8) (w : World) (h : RdO b g brk bs w) : Calls Tryd.prog 64 #[.pointer (some ⟨g, 0, none⟩), .func (.func 65) #[] #[]] w (TakeNum b g brk bs w) := by
  obtain ⟨hbw, hbg, a, n, c, h3, h4, h5⟩ := h
  obtain ⟨c0, c1, f0, f1⟩ := cells2F h3
  have HT := hide (oNum1_any a n c bs b w hbw h4 h5)
  have HBW := hide hbw
  have HBG := hide hbg
  clear hbw hbg
  have H3 := hide h3
  clear h3 h4 h5
  go_enter Tryd.func64, Tryd.ntmps64
  go_wp2_with fail
  refine (unhide HT).mono ?_
  rintro e w1 ⟨x, bs1, ra, rn, rc, er, rfl, hB, hrn, hb, hx, hO⟩
  obtain ⟨eb, he, hz, ht⟩ := hO.took (fun _ _ _ _ _ _ e => numB_prefix e) brk
  have H31 : Hid (w1.heap[g]? = some (.cells #[.slice a n c, .bool brk] 52 (0, 0))) := (hb.block _ (Array.getElem?_eq_some_iff.1 (unhide H3)).1).trans (unhide H3)
  obtain ⟨k0, k1, r0, r1⟩ := cells2F (unhide H31)
  have HX : Hid (∀ b2 : Bool, b2 = (brk || eb) → TakeNum b g brk bs w (.returned (.int .i64 x)) ((w1.setCell ⟨g, 0, none⟩ (.slice ra rn rc)).setCell ⟨g, 1, none⟩ (.bool b2))) := fun b2 hb2 => by
    obtain ⟨q1, q2⟩ := rdO_set (b2 := b2) (unhide H31) ((unhide HBW).trans (hb.mono (unhide HBW).size)) (unhide HBG) hB hrn
    exact ⟨x, b2, bs1, rfl, hx, q1, (ButF.of hb).trans q2, by rw [hb2]; exact ht⟩
  clear hB hrn hb hx hO ht H3 H31 c0 c1 f0 f1 HT
  cases brk with
  | true =>
    have HF := hide (unhide HX true rfl)
    clear HX
    go_wp2_with fail
    go_ret
    exact unhide HF
  | false =>
    cases eb with
    | true =>
      have HF := hide (unhide HX true rfl)
      have he2 : (er == 0) = false := hz
      clear HX
      go_wp2_with fail
      go_ret
      exact unhide HF
    | false =>
      have HF := hide (unhide HX false rfl)
      have he2 : (er == 0) = true := hz
      clear HX
      go_wp2_with fail
      go_ret
      exact unhide HF


/-- What take tells at this type. -/
def TakeText (b : World) (g : Nat) (brk : Bool) (bs : List UInt8) (w : World) (e : Ending) (W : World) : Prop := ∃ (s : List UInt8) (brk' : Bool) (bs' : List UInt8), e = .returned (.string ⟨s.toArray⟩) ∧ s.length ≤ 400 ∧ RdO b g brk' bs' W ∧ ButF g w W ∧ Took PText textB brk bs s brk' bs'
set_option maxRecDepth 100000 in
set_option maxHeartbeats 2000000 in
theorem oTakeText_any (b : World) (g : Nat) (brk : Bool) (bs : List UInt8) (w : World) (h : RdO b g brk bs w) : Calls Tryd.prog 39 #[.pointer (some ⟨g, 0, none⟩), .func (.func 40) #[] #[]] w (TakeText b g brk bs w) := by
  obtain ⟨hbw, hbg, a, n, c, h3, h4, h5⟩ := h
  obtain ⟨c0, c1, f0, f1⟩ := cells2F h3
  have HT := hide (oText_any a n c bs b w hbw h4 h5)
  have HBW := hide hbw
  have HBG := hide hbg
  clear hbw hbg
  have H3 := hide h3
  clear h3 h4 h5
  go_enter Tryd.func39, Tryd.ntmps39
  go_wp2_with fail
  refine (unhide HT).mono ?_
  rintro e w1 ⟨s, bs1, ra, rn, rc, er, rfl, hB, hrn, hb, hx, hO⟩
  obtain ⟨eb, he, hz, ht⟩ := hO.took (fun _ _ _ _ _ _ e => textB_prefix e) brk
  have H31 : Hid (w1.heap[g]? = some (.cells #[.slice a n c, .bool brk] 52 (0, 0))) := (hb.block _ (Array.getElem?_eq_some_iff.1 (unhide H3)).1).trans (unhide H3)
  obtain ⟨k0, k1, r0, r1⟩ := cells2F (unhide H31)
  have HX : Hid (∀ b2 : Bool, b2 = (brk || eb) → TakeText b g brk bs w (.returned (.string ⟨s.toArray⟩)) ((w1.setCell ⟨g, 0, none⟩ (.slice ra rn rc)).setCell ⟨g, 1, none⟩ (.bool b2))) := fun b2 hb2 => by
    obtain ⟨q1, q2⟩ := rdO_set (b2 := b2) (unhide H31) ((unhide HBW).trans (hb.mono (unhide HBW).size)) (unhide HBG) hB hrn
    exact ⟨s, b2, bs1, rfl, hx, q1, (ButF.of hb).trans q2, by rw [hb2]; exact ht⟩
  clear hB hrn hb hx hO ht H3 H31 c0 c1 f0 f1 HT
  generalize (⟨s.toArray⟩ : ByteArray) = sz at *
  cases brk with
  | true =>
    have HF := hide (unhide HX true rfl)
    clear HX
    go_wp2_with fail
    go_ret
    exact unhide HF
  | false =>
    cases eb with
    | true =>
      have HF := hide (unhide HX true rfl)
      have he2 : (er == 0) = false := hz
      clear HX
      go_wp2_with fail
      go_ret
      exact unhide HF
    | false =>
      have HF := hide (unhide HX false rfl)
      have he2 : (er == 0) = true := hz
      clear HX
      go_wp2_with fail
      go_ret
      exact unhide HF


/-- What take tells at this type. -/
def TakeFrag (b : World) (g : Nat) (brk : Bool) (bs : List UInt8) (w : World) (e : Ending) (W : World) : Prop := ∃ (l : List FI) (fa : Option Addr) (fn fc : Nat) (brk' : Bool) (bs' : List UInt8), e = .returned (.slice fa fn fc) ∧ FragAt (fun k => w.heap.size ≤ k) W l (.slice fa fn fc) ∧ RdO b g brk' bs' W ∧ ButF g w W ∧ Took PFrag bytesF brk bs l brk' bs'
set_option maxRecDepth 100000 in
set_option maxHeartbeats 2000000 in
theorem oTakeFrag_any (b : World) (g : Nat) (brk : Bool) (bs : List UInt8) (w : World) (h : RdO b g brk bs w) : Calls Tryd.prog 43 #[.pointer (some ⟨g, 0, none⟩), .func (.func 44) #[] #[]] w (TakeFrag b g brk bs w) := by
  obtain ⟨hbw, hbg, a, n, c, h3, h4, h5⟩ := h
  obtain ⟨c0, c1, f0, f1⟩ := cells2F h3
  have HT := hide (oFrag1_any a n c bs b w hbw h4 h5)
  have HBW := hide hbw
  have HBG := hide hbg
  clear hbw hbg
  have H3 := hide h3
  clear h3 h4 h5
  go_enter Tryd.func43, Tryd.ntmps43
  go_wp2_with fail
  refine (unhide HT).mono ?_
  rintro e w1 ⟨l, fa, fn, fc, bs1, ra, rn, rc, er, rfl, hB, hrn, hb, hx, hO⟩
  obtain ⟨eb, he, hz, ht⟩ := hO.took (fun _ _ _ _ hx hy e => bytesF_prefix hx hy e) brk
  have H31 : Hid (w1.heap[g]? = some (.cells #[.slice a n c, .bool brk] 52 (0, 0))) := (hb.block _ (Array.getElem?_eq_some_iff.1 (unhide H3)).1).trans (unhide H3)
  obtain ⟨k0, k1, r0, r1⟩ := cells2F (unhide H31)
  have HX : Hid (∀ b2 : Bool, b2 = (brk || eb) → TakeFrag b g brk bs w (.returned (.slice fa fn fc)) ((w1.setCell ⟨g, 0, none⟩ (.slice ra rn rc)).setCell ⟨g, 1, none⟩ (.bool b2))) := fun b2 hb2 => by
    obtain ⟨q1, q2⟩ := rdO_set (b2 := b2) (unhide H31) ((unhide HBW).trans (hb.mono (unhide HBW).size)) (unhide HBG) hB hrn
    exact ⟨l, fa, fn, fc, b2, bs1, rfl, hx.kept (fun k hk hl => q2.block k hl (by have := (Array.getElem?_eq_some_iff.1 (unhide H3)).1; omega)) (fun _ hk _ => hk), q1, (ButF.of hb).trans q2, by rw [hb2]; exact ht⟩
  clear hB hrn hb hx hO ht H3 H31 c0 c1 f0 f1 HT
  cases brk with
  | true =>
    have HF := hide (unhide HX true rfl)
    clear HX
    go_wp2_with fail
    go_ret
    exact unhide HF
  | false =>
    cases eb with
    | true =>
      have HF := hide (unhide HX true rfl)
      have he2 : (er == 0) = false := hz
      clear HX
      go_wp2_with fail
      go_ret
      exact unhide HF
    | false =>
      have HF := hide (unhide HX false rfl)
      have he2 : (er == 0) = true := hz
      clear HX
      go_wp2_with fail
      go_ret
      exact unhide HF

end Go.Proofs.YtdlbpbglidhlfaaDoor

namespace Go.Proofs.YtdlbpbglidhlfaaDoor
open Go.RowKit

theorem ButF.new {g k : Nat} {w X : World} (h : ButF g w X) (hk : w.heap.size ≤ k) (o : Nat) (v : Value) : ButF g w (X.setCell ⟨k, o, none⟩ v) := by
  have b := (Below.refl 0 X).setCell (p := ⟨k, o, none⟩) (Nat.zero_le _) v
  exact ⟨b.os.trans h.os, b.tape.trans h.tape, b.output.trans h.output, by rw [World.size_setCell]; exact h.size, fun j hj hn => (Below.heap_setCell _ _ _ _ (by show j ≠ k; omega)).trans (h.block j hj hn)⟩
theorem RdO.set1 {b : World} {g : Nat} {brk : Bool} {bs : List UInt8} {W : World} (h : RdO b g brk bs W) (b2 : Bool) : RdO b g b2 bs (W.setCell ⟨g, 1, none⟩ (.bool b2)) := by
  obtain ⟨h1, h2, a, n, c, h3, h4⟩ := h
  exact ⟨h1.setCell (p := ⟨g, 1, none⟩) h2 _, h2, a, n, c, heap_setCell_same _ _ _ _ _ _ h3, h4⟩
theorem RdO.cells {b : World} {g : Nat} {brk : Bool} {bs : List UInt8} {W : World} (h : RdO b g brk bs W) : ∃ (a : Option Addr) (n c : Nat), (W.cell? ⟨g, 0, none⟩ = some (.slice a n c) ∧ W.cell? ⟨g, 1, none⟩ = some (.bool brk) ∧ W.frozen? ⟨g, 0, none⟩ = false ∧ W.frozen? ⟨g, 1, none⟩ = false) ∧ bs.length = n ∧ n ≤ 1048576 := by
  obtain ⟨h1, h2, a, n, c, h3, h4, h5⟩ := h
  exact ⟨a, n, c, cells2F h3, (bytes_len h4).1, h5⟩

/-- What number tells. -/
def NumberM (b : World) (g : Nat) (most : Int) (brk : Bool) (bs : List UInt8) (w : World) (e : Ending) (W : World) : Prop := ∃ (x : Int) (brk' : Bool) (bs' : List UInt8), e = .returned (.int .i64 x) ∧ (0 ≤ x ∧ x ≤ most) ∧ RdO b g brk' bs' W ∧ ButF g w W ∧ Took (PNum most) numB brk bs x brk' bs'
set_option maxRecDepth 100000 in
set_option maxHeartbeats 2000000 in
theorem oNumber_any (b : World) (g : Nat) (most : Int) (hm0 : 0 ≤ most) (hm : most ≤ 9223372036854775807) (brk : Bool) (bs : List UInt8) (w : World) (h : RdO b g brk bs w) : Calls Tryd.prog 38 #[.pointer (some ⟨g, 0, none⟩), .int .i64 most] w (NumberM b g most brk bs w) := by
  have HT := hide (oTakeNum_any b g brk bs w h)
  have HM := hide hm
  have HM0 := hide hm0
  clear h hm hm0
  go_enter Tryd.func38, Tryd.ntmps38
  go_wp2_with fail
  refine (unhide HT).mono ?_
  rintro e w1 ⟨x, brk1, bs1, rfl, hx, hR, hU, ht⟩
  obtain ⟨a, n, c, ⟨c0, c1, f0, f1⟩, -, -⟩ := hR.cells
  have HIN : Hid (∀ y, PNum most y → InR y) := fun y hy => by
    have h1 := unhide HM
    have h2 := hy.1
    have h3 := hy.2
    unfold InR
    omega
  by_cases hr : 0 ≤ x ∧ x ≤ most
  · have p1 : ¬ x < 0 := by omega
    have p2 : ¬ x > most := by omega
    have HF : Hid (NumberM b g most brk bs w (.returned (.int .i64 x)) w1) := ⟨x, brk1, bs1, rfl, hr, hR, hU, ⟨fun hb => ⟨(ht.sound hb).1, hr, (ht.sound hb).2.2⟩, fun y r hb hy e => ht.full y r hb (unhide HIN y hy) e⟩⟩
    clear hx hR hU ht hr
    go_wp2_with fail
    go_ret
    exact unhide HF
  · have HF : Hid (NumberM b g most brk bs w (.returned (.int .i64 0)) (w1.setCell ⟨g, 1, none⟩ (.bool true))) := ⟨0, true, bs1, rfl, ⟨Int.le_refl _, unhide HM0⟩, hR.set1 true, hU.set 1 _, ⟨fun hb => (by cases hb), fun y r hb hy e => by
      have h1 := (ht.full y r hb (unhide HIN y hy) e).2.1
      have h2 := hy.1
      have h3 := hy.2
      omega⟩⟩
    clear hR hU ht
    by_cases hx0 : x < 0
    · clear hr hx
      go_wp2_with fail
      go_ret
      exact unhide HF
    · have p2 : x > most := by omega
      clear hr hx
      go_wp2_with fail
      go_ret
      exact unhide HF

/-- What take of a value tells. -/
def TakeVal (b : World) (g : Nat) (brk : Bool) (bs : List UInt8) (w : World) (e : Ending) (W : World) : Prop := ∃ (v : VD) (K m cc : Nat) (N : Int) (z : ByteArray) (va : Option Addr) (brk' : Bool) (bs' : List UInt8), e = .returned (.agg #[.int .u8 ((K : Nat) : Int), .int .i64 N, .string z, .slice va m cc]) ∧ (v.At (fun k => w.heap.size ≤ k) W (.agg #[.int .u8 ((K : Nat) : Int), .int .i64 N, .string z, .slice va m cc]) ∧ v.right = true) ∧ RdO b g brk' bs' W ∧ ButF g w W ∧ Took PVal VD.bytes brk bs v brk' bs'
theorem takeV_done {b w W0 w1 w2 : World} {g : Nat} {brk brk' : Bool} {bs bs' : List UInt8} {v : VD} {K m cc : Nat} {N : Int} {z : ByteArray} {va ra : Option Addr} {rn rc : Nat} {a : Option Addr} {n c : Nat}
    (hbw : Below b.heap.size b w) (hbg : b.heap.size ≤ g) (hg : g < w.heap.size) (h0 : W0.heap.size = w.heap.size + 1) (hb0 : Below w.heap.size w W0) (hb1 : Below W0.heap.size W0 w1) (hb2 : Below w1.heap.size w1 w2) (h3 : w2.heap[g]? = some (.cells #[.slice a n c, .bool brk] 52 (0, 0)))
    (hv : v.At (fun k => W0.heap.size ≤ k) w1 (.agg #[.int .u8 ((K : Nat) : Int), .int .i64 N, .string z, .slice va m cc])) (hr : v.right = true) (hB : Bytes b (.slice ra rn rc) bs') (hn : rn ≤ 1048576) (ht : Took PVal VD.bytes brk bs v brk' bs') :
    TakeVal b g brk bs w (.returned (.agg #[.int .u8 ((K : Nat) : Int), .int .i64 N, .string z, .slice va m cc])) ((((((w2.setCell ⟨g, 0, none⟩ (.slice ra rn rc)).setCell ⟨g, 1, none⟩ (.bool brk')).setCell ⟨w.heap.size, 0, none⟩ (.int .u8 ((K : Nat) : Int))).setCell ⟨w.heap.size, 1, none⟩ (.int .i64 N)).setCell ⟨w.heap.size, 2, none⟩ (.string z)).setCell ⟨w.heap.size, 3, none⟩ (.slice va m cc)) := by
  have hw1 : Below w.heap.size w w1 := hb0.trans (hb1.mono hb0.size)
  have hw2 : Below w.heap.size w w2 := hw1.trans (hb2.mono hw1.size)
  have hbw2 : Below b.heap.size b w2 := hbw.trans (hw2.mono hbw.size)
  obtain ⟨q1, q2⟩ := rdO_set (b2 := brk') h3 hbw2 hbg hB hn
  have hu := ((((ButF.of hw2).trans q2).new (Nat.le_refl _) 0 (.int .u8 ((K : Nat) : Int))).new (Nat.le_refl _) 1 (.int .i64 N)).new (Nat.le_refl _) 2 (.string z) |>.new (Nat.le_refl _) 3 (.slice va m cc)
  have hs1 := hb1.size
  have hs2 := hb2.size
  refine ⟨v, K, m, cc, N, z, va, brk', bs', rfl, ⟨?_, hr⟩, ?_, hu, ht⟩
  · refine (hv.later hb2).kept (fun k hk hl => ?_) (fun k hk _ => by omega)
    rw [set4_other _ _ _ _ (by omega)]
    exact q2.block k hl (by omega)
  · exact q1.kept (hu.below hbw hbg) (set4_other _ _ _ _ (by omega))
set_option maxRecDepth 100000 in
set_option maxHeartbeats 2000000 in
theorem oTakeVal_any (b : World) (g : Nat) (brk : Bool) (bs : List UInt8) (w : World) (h : RdO b g brk bs w) : Calls Tryd.prog 41 #[.pointer (some ⟨g, 0, none⟩), .func (.func 42) #[] #[]] w (TakeVal b g brk bs w) := by
  have hlt := h.lt
  obtain ⟨hbw, hbg, a, n, c, h3, h4, h5⟩ := h
  obtain ⟨W0, hW0⟩ : ∃ W0, W0 = w.alloc (.cells #[.int .u8 0, .int .i64 0, .string ⟨#[]⟩, .slice none 0 0] 24) := ⟨_, rfl⟩
  have hb0 : Below w.heap.size w W0 := by rw [hW0]; exact (Below.refl _ _).alloc (Nat.le_refl _) _
  have h0 : W0.heap.size = w.heap.size + 1 := by rw [hW0]; simp
  have hg4 : W0.heap[w.heap.size]? = some (.cells #[.int .u8 0, .int .i64 0, .string ⟨#[]⟩, .slice none 0 0] 24 (0, 0)) := by rw [hW0]; exact heap_alloc_new _ _
  have h30 := (hb0.block g hlt).trans h3
  obtain ⟨c0, c1, f0, f1⟩ := cells2F h30
  have HT := hide (oVal1_any a n c bs b W0 (hbw.trans (hb0.mono hbw.size)) h4 h5)
  have HG4 := hide hg4
  have H30 := hide h30
  have HBB : Hid (Below b.heap.size b w ∧ b.heap.size ≤ g ∧ g < w.heap.size ∧ W0.heap.size = w.heap.size + 1 ∧ Below w.heap.size w W0) := ⟨hbw, hbg, hlt, h0, hb0⟩
  have HW0 := hide hW0
  clear hbw hbg hlt h0 hb0 hg4 h3 h30 h4 h5 hW0
  go_enter Tryd.func41, Tryd.ntmps41
  go_upto_region 1 with fail
  rw [← unhide HW0]
  clear HW0
  go_wp2_with fail
  refine (unhide HT).mono ?_
  rintro e w1 ⟨v, K, m, cc, N, z, va, bs1, ra, rn, rc, er, rfl, hB, hrn, hb1, ⟨hv, hvr⟩, hO⟩
  obtain ⟨eb, he, hz, ht⟩ := hO.took (fun _ _ _ _ hx hy e => VD.bytes_prefix _ _ _ _ (OD.right_kinds hx.1) (OD.right_kinds hy.1) e) brk
  obtain ⟨w2, hw2⟩ : ∃ w2, w2 = w1.alloc (.cells #[.int .u8 ((K : Nat) : Int), .int .i64 N, .string z, .slice va m cc] 24) := ⟨_, rfl⟩
  have hb2 : Below w1.heap.size w1 w2 := by rw [hw2]; exact (Below.refl _ _).alloc (Nat.le_refl _) _
  have hg5 : w2.heap[w1.heap.size]? = some (.cells #[.int .u8 ((K : Nat) : Int), .int .i64 N, .string z, .slice va m cc] 24 (0, 0)) := by rw [hw2]; exact heap_alloc_new _ _
  have hb02 : Below W0.heap.size W0 w2 := hb1.trans (hb2.mono hb1.size)
  have h32 := (hb02.block g (by have := unhide HBB; omega)).trans (unhide H30)
  have hg42 := (hb02.block w.heap.size (by have := unhide HBB; omega)).trans (unhide HG4)
  have HX : Hid (∀ b2 : Bool, b2 = (brk || eb) → TakeVal b g brk bs w (.returned (.agg #[.int .u8 ((K : Nat) : Int), .int .i64 N, .string z, .slice va m cc])) ((((((w2.setCell ⟨g, 0, none⟩ (.slice ra rn rc)).setCell ⟨g, 1, none⟩ (.bool b2)).setCell ⟨w.heap.size, 0, none⟩ (.int .u8 ((K : Nat) : Int))).setCell ⟨w.heap.size, 1, none⟩ (.int .i64 N)).setCell ⟨w.heap.size, 2, none⟩ (.string z)).setCell ⟨w.heap.size, 3, none⟩ (.slice va m cc))) := fun b2 hb2' => by
    obtain ⟨i1, i2, i3, i4, i5⟩ := unhide HBB
    exact takeV_done i1 i2 i3 i4 i5 hb1 hb2 h32 hv hvr hB hrn (by rw [hb2']; exact ht)
  have HC3 : Hid (∀ b2 : Bool, ((w2.setCell ⟨g, 0, none⟩ (.slice ra rn rc)).setCell ⟨g, 1, none⟩ (.bool b2)).heap[w1.heap.size]? = some (.cells #[.int .u8 ((K : Nat) : Int), .int .i64 N, .string z, .slice va m cc] 24 (0, 0)) ∧ ((w2.setCell ⟨g, 0, none⟩ (.slice ra rn rc)).setCell ⟨g, 1, none⟩ (.bool b2)).heap[w.heap.size]? = some (.cells #[.int .u8 0, .int .i64 0, .string ⟨#[]⟩, .slice none 0 0] 24 (0, 0))) := fun b2 => by
    have hs := hb1.size
    have := unhide HBB
    exact ⟨by rw [Below.heap_setCell _ _ _ _ (by show w1.heap.size ≠ g; omega), Below.heap_setCell _ _ _ _ (by show w1.heap.size ≠ g; omega)]; exact hg5, by rw [Below.heap_setCell _ _ _ _ (by show w.heap.size ≠ g; omega), Below.heap_setCell _ _ _ _ (by show w.heap.size ≠ g; omega)]; exact hg42⟩
  obtain ⟨k0, k1, r0, r1⟩ := cells2F h32
  have HW2 := hide hw2
  clear hB hrn hb1 hv hvr hO ht hb2 hg5 hb02 h32 hg42 hw2 H30 HG4 c0 c1 f0 f1 HT
  go_upto_region 2 with fail
  rw [← unhide HW2]
  clear HW2
  cases brk with
  | true =>
    have HF := hide (unhide HX true rfl)
    obtain ⟨g5, g4⟩ := unhide HC3 true
    obtain ⟨w3, hw3⟩ : ∃ w3, w3 = (w2.setCell ⟨g, 0, none⟩ (.slice ra rn rc)).setCell ⟨g, 1, none⟩ (.bool true) := ⟨_, rfl⟩
    rw [← hw3] at HF g5 g4
    have HW3 := hide hw3
    have HG4 := hide g4
    obtain ⟨⟨u0, u1, u2, u3⟩, -⟩ := cells4 g5
    obtain ⟨⟨m0, m1, m2, m3⟩, n0, n1, n2, n3⟩ := cells4 g4
    clear HX HC3 hw3 g5 g4
    go_upto_region 4 with fail
    rw [← unhide HW3]
    clear HW3 k0 k1 r0 r1
    go_wp2_with fail
    refine bodyPost_ret (results_cvF rfl _ _ _ _ _ _ _ rfl (set4_heap (unhide HG4) _ _ _ _) Tryd.underlying24 rfl (by kernel_rfl)) rfl ?_
    exact unhide HF
  | false =>
    cases eb with
    | true =>
      have he2 : (er == 0) = false := hz
      have HF := hide (unhide HX true rfl)
      obtain ⟨g5, g4⟩ := unhide HC3 true
      obtain ⟨w3, hw3⟩ : ∃ w3, w3 = (w2.setCell ⟨g, 0, none⟩ (.slice ra rn rc)).setCell ⟨g, 1, none⟩ (.bool true) := ⟨_, rfl⟩
      rw [← hw3] at HF g5 g4
      have HW3 := hide hw3
      have HG4 := hide g4
      obtain ⟨⟨u0, u1, u2, u3⟩, -⟩ := cells4 g5
      obtain ⟨⟨m0, m1, m2, m3⟩, n0, n1, n2, n3⟩ := cells4 g4
      clear HX HC3 hw3 g5 g4
      go_upto_region 4 with fail
      rw [← unhide HW3]
      clear HW3 k0 k1 r0 r1
      go_wp2_with fail
      refine bodyPost_ret (results_cvF rfl _ _ _ _ _ _ _ rfl (set4_heap (unhide HG4) _ _ _ _) Tryd.underlying24 rfl (by kernel_rfl)) rfl ?_
      exact unhide HF
    | false =>
      have he2 : (er == 0) = true := hz
      have HF := hide (unhide HX false rfl)
      obtain ⟨g5, g4⟩ := unhide HC3 false
      obtain ⟨w3, hw3⟩ : ∃ w3, w3 = (w2.setCell ⟨g, 0, none⟩ (.slice ra rn rc)).setCell ⟨g, 1, none⟩ (.bool false) := ⟨_, rfl⟩
      rw [← hw3] at HF g5 g4
      have HW3 := hide hw3
      have HG4 := hide g4
      obtain ⟨⟨u0, u1, u2, u3⟩, -⟩ := cells4 g5
      obtain ⟨⟨m0, m1, m2, m3⟩, n0, n1, n2, n3⟩ := cells4 g4
      clear HX HC3 hw3 g5 g4
      go_upto_region 4 with fail
      rw [← unhide HW3]
      clear HW3 k0 k1 r0 r1
      go_wp2_with fail
      refine bodyPost_ret (results_cvF rfl _ _ _ _ _ _ _ rfl (set4_heap (unhide HG4) _ _ _ _) Tryd.underlying24 rfl (by kernel_rfl)) rfl ?_
      exact unhide HF
end Go.Proofs.YtdlbpbglidhlfaaDoor

namespace Go.Proofs.YtdlbpbglidhlfaaDoor
open Go.RowKit

/-- What was taken of bs0 is o, behind it bs'; or it is broken, and no operation is there. -/
structure OpOk (bs0 : List UInt8) (o : OD) (brk : Bool) (bs' : List UInt8) : Prop where
  sound : brk = false → bs0 = o.bytes ++ bs'
  full : ∀ y r, y.Good → bs0 = y.bytes ++ r → brk = false ∧ o = y ∧ bs' = r

theorem pnum_what {y : OD} (h : y.right = true) : PNum 5 ((y.what : Nat) : Int) := by
  have := OD.right_what h
  unfold PNum
  omega
theorem od_head (y : OD) : ∃ t, y.bytes = numB ((y.what : Nat) : Int) ++ t := ⟨_, rfl⟩
theorem took_what {bs0 : List UInt8} {N : Nat} {b1 : Bool} {s1 : List UInt8} (t1 : Took (PNum 5) numB false bs0 ((N : Nat) : Int) b1 s1) {y : OD} {r t : List UInt8} (hy : y.Good) (e : bs0 = y.bytes ++ r) (ht : y.bytes = numB ((y.what : Nat) : Int) ++ t) : b1 = false ∧ N = y.what ∧ s1 = t ++ r := by
  rw [ht, List.append_assoc] at e
  obtain ⟨h1, h2, h3⟩ := t1.full _ _ rfl (pnum_what hy.rt) e
  exact ⟨h1, by omega, h3⟩
theorem read_0 {bs0 : List UInt8} {b1 : Bool} {s1 : List UInt8} (t1 : Took (PNum 5) numB false bs0 ((0 : Nat) : Int) b1 s1) : OpOk bs0 ⟨0, [], 0, zeroD, [], 0⟩ b1 s1 where
  sound hb := by
    have := (t1.sound hb).2.2
    rw [this]
    unfold OD.bytes
    simp [OD.part, OD.sub, OD.has]
  full y r hy e := by
    obtain ⟨t, ht⟩ := od_head y
    have h := (took_what t1 hy e ht).2.1
    have := (OD.right_what hy.rt).1
    omega
theorem read_1 {bs0 : List UInt8} {N : Nat} (hN : N = 1) {l : List FI} {q : Int} {b1 b2 b3 : Bool} {s1 s2 s3 : List UInt8} (t1 : Took (PNum 5) numB false bs0 ((N : Nat) : Int) b1 s1) (t2 : Took PFrag bytesF b1 s1 l b2 s2) (t3 : Took (PNum 400) numB b2 s2 q b3 s3) : OpOk bs0 ⟨N, [], 0, zeroD, l, q⟩ b3 s3 where
  sound hb := by
    obtain ⟨hb2, -, e3⟩ := t3.sound hb
    obtain ⟨hb1, -, e2⟩ := t2.sound hb2
    obtain ⟨-, -, e1⟩ := t1.sound hb1
    subst hN
    rw [OD.bytes_1 rfl, e1, e2, e3]
    simp only [List.append_assoc]
    rfl
  full y r hy e := by
    obtain ⟨t, ht⟩ := od_head y
    obtain ⟨hb1, hw, e1⟩ := took_what t1 hy e ht
    have hw1 : y.what = 1 := by omega
    have ht2 : t = bytesF y.frag ++ numB y.quota := by
      have h := OD.bytes_1 hw1
      rw [ht, hw1] at h
      exact List.append_cancel_left h
    rw [ht2, List.append_assoc] at e1
    rcases OD.right_cases hy.rt with ⟨_, a1, a2, a3, a4, a5, a6⟩ | ⟨w, _⟩ | ⟨w, _⟩ | ⟨w, _⟩ <;> try omega
    obtain ⟨hb2, e2, e3⟩ := t2.full _ _ hb1 a1 e1
    obtain ⟨hb3, e4, e5⟩ := t3.full _ _ hb2 ⟨a2, a3⟩ e3
    exact ⟨hb3, OD.ext hw a4.symm a5.symm a6.symm e2 e4, e5⟩
theorem read_2 {bs0 : List UInt8} {N : Nat} (hN : N = 2 ∨ N = 5) {s : List UInt8} {b1 b2 : Bool} {s1 s2 : List UInt8} (t1 : Took (PNum 5) numB false bs0 ((N : Nat) : Int) b1 s1) (t2 : Took PText textB b1 s1 s b2 s2) : OpOk bs0 ⟨N, s, 0, zeroD, [], 0⟩ b2 s2 where
  sound hb := by
    obtain ⟨hb1, -, e2⟩ := t2.sound hb
    obtain ⟨-, -, e1⟩ := t1.sound hb1
    rcases hN with rfl | rfl
    · rw [OD.bytes_2 rfl, e1, e2, List.append_assoc]; rfl
    · rw [OD.bytes_5 rfl, e1, e2, List.append_assoc]; rfl
  full y r hy e := by
    obtain ⟨t, ht⟩ := od_head y
    obtain ⟨hb1, hw, e1⟩ := took_what t1 hy e ht
    have ht2 : t = textB y.id := by
      rcases hN with h0 | h0
      · have hw1 : y.what = 2 := by omega
        have h := OD.bytes_2 hw1
        rw [ht, hw1] at h
        exact List.append_cancel_left h
      · have hw1 : y.what = 5 := by omega
        have h := OD.bytes_5 hw1
        rw [ht, hw1] at h
        exact List.append_cancel_left h
    rw [ht2] at e1
    rcases OD.right_cases hy.rt with ⟨w, _⟩ | ⟨w, a1, a2, a3, a4, a5⟩ | ⟨w, _⟩ | ⟨w, _⟩ <;> try omega
    obtain ⟨hb2, e2, e3⟩ := t2.full _ _ hb1 (idB_len a1).2 e1
    exact ⟨hb2, OD.ext hw e2 a2.symm a3.symm a4.symm a5.symm, e3⟩
theorem read_3P {P : Int → Prop} (hPP : ∀ x, 1 ≤ x → InR x → P x) {bs0 : List UInt8} {N : Nat} (hN : N = 3) {s : List UInt8} {k : Int} {v : VD} {l : List FI} {b1 b2 b3 b4 b5 : Bool} {s1 s2 s3 s4 s5 : List UInt8} (t1 : Took (PNum 5) numB false bs0 ((N : Nat) : Int) b1 s1) (t2 : Took PText textB b1 s1 s b2 s2) (t3 : Took P numB b2 s2 k b3 s3) (t4 : Took PVal VD.bytes b3 s3 v b4 s4) (t5 : Took PFrag bytesF b4 s4 l b5 s5) : OpOk bs0 ⟨N, s, k, v, l, 0⟩ b5 s5 where
  sound hb := by
    obtain ⟨hb4, -, e5⟩ := t5.sound hb
    obtain ⟨hb3, -, e4⟩ := t4.sound hb4
    obtain ⟨hb2, -, e3⟩ := t3.sound hb3
    obtain ⟨hb1, -, e2⟩ := t2.sound hb2
    obtain ⟨-, -, e1⟩ := t1.sound hb1
    subst hN
    rw [OD.bytes_3 rfl, e1, e2, e3, e4, e5]
    simp only [List.append_assoc]
    rfl
  full y r hy e := by
    obtain ⟨t, ht⟩ := od_head y
    obtain ⟨hb1, hw, e1⟩ := took_what t1 hy e ht
    have hw1 : y.what = 3 := by omega
    have ht2 : t = textB y.id ++ (numB y.token ++ (y.value.bytes ++ bytesF y.frag)) := by
      have h := OD.bytes_3 hw1
      rw [ht, hw1] at h
      exact List.append_cancel_left h
    rw [ht2] at e1
    simp only [List.append_assoc] at e1
    rcases OD.right_cases hy.rt with ⟨w, _⟩ | ⟨w, _⟩ | ⟨w, a1, a2, a3, a4, a5⟩ | ⟨w, _⟩ <;> try omega
    obtain ⟨hb2, e2, e3⟩ := t2.full _ _ hb1 (idB_len a1).2 e1
    have htk := hy.tk
    obtain ⟨hb3, e4, e5⟩ := t3.full _ _ hb2 (hPP _ a2 htk) e3
    obtain ⟨hb4, e6, e7⟩ := t4.full _ _ hb3 ⟨a3, hy.vf⟩ e5
    obtain ⟨hb5, e8, e9⟩ := t5.full _ _ hb4 a4 e7
    exact ⟨hb5, OD.ext hw e2 e4 e6 e8 a5.symm, e9⟩
theorem read_3 {bs0 : List UInt8} {N : Nat} (hN : N = 3) {s : List UInt8} {k : Int} {v : VD} {l : List FI} {b1 b2 b3 b4 b5 : Bool} {s1 s2 s3 s4 s5 : List UInt8} (t1 : Took (PNum 5) numB false bs0 ((N : Nat) : Int) b1 s1) (t2 : Took PText textB b1 s1 s b2 s2) (t3 : Took (PNum 9223372036854775807) numB b2 s2 k b3 s3) (t4 : Took PVal VD.bytes b3 s3 v b4 s4) (t5 : Took PFrag bytesF b4 s4 l b5 s5) : OpOk bs0 ⟨N, s, k, v, l, 0⟩ b5 s5 := read_3P (fun x h1 h2 => ⟨by omega, h2.2⟩) hN t1 t2 t3 t4 t5
theorem read_4P {P : Int → Prop} (hPP : ∀ x, 1 ≤ x → InR x → P x) {bs0 : List UInt8} {N : Nat} (hN : N = 4) {s : List UInt8} {k : Int} {b1 b2 b3 : Bool} {s1 s2 s3 : List UInt8} (t1 : Took (PNum 5) numB false bs0 ((N : Nat) : Int) b1 s1) (t2 : Took PText textB b1 s1 s b2 s2) (t3 : Took P numB b2 s2 k b3 s3) : OpOk bs0 ⟨N, s, k, zeroD, [], 0⟩ b3 s3 where
  sound hb := by
    obtain ⟨hb2, -, e3⟩ := t3.sound hb
    obtain ⟨hb1, -, e2⟩ := t2.sound hb2
    obtain ⟨-, -, e1⟩ := t1.sound hb1
    subst hN
    rw [OD.bytes_4 rfl, e1, e2, e3]
    simp only [List.append_assoc]
    rfl
  full y r hy e := by
    obtain ⟨t, ht⟩ := od_head y
    obtain ⟨hb1, hw, e1⟩ := took_what t1 hy e ht
    have hw1 : y.what = 4 := by omega
    have ht2 : t = textB y.id ++ numB y.token := by
      have h := OD.bytes_4 hw1
      rw [ht, hw1] at h
      exact List.append_cancel_left h
    rw [ht2] at e1
    simp only [List.append_assoc] at e1
    rcases OD.right_cases hy.rt with ⟨w, _⟩ | ⟨w, _⟩ | ⟨w, _⟩ | ⟨w, a1, a2, a3, a4, a5⟩ <;> try omega
    obtain ⟨hb2, e2, e3⟩ := t2.full _ _ hb1 (idB_len a1).2 e1
    have htk := hy.tk
    obtain ⟨hb3, e4, e5⟩ := t3.full _ _ hb2 (hPP _ a2 htk) e3
    exact ⟨hb3, OD.ext hw e2 e4 a3.symm a4.symm a5.symm, e5⟩
theorem read_4 {bs0 : List UInt8} {N : Nat} (hN : N = 4) {s : List UInt8} {k : Int} {b1 b2 b3 : Bool} {s1 s2 s3 : List UInt8} (t1 : Took (PNum 5) numB false bs0 ((N : Nat) : Int) b1 s1) (t2 : Took PText textB b1 s1 s b2 s2) (t3 : Took (PNum 9223372036854775807) numB b2 s2 k b3 s3) : OpOk bs0 ⟨N, s, k, zeroD, [], 0⟩ b3 s3 := read_4P (fun x h1 h2 => ⟨by omega, h2.2⟩) hN t1 t2 t3

/-- An operation that is being read: its struct in the block G3, the result's in G2. -/
structure OpS (b w : World) (g : Nat) (G2 G3 : Nat) (row : Array Value) (brk : Bool) (bs : List UInt8) (W : World) : Prop where
  rd : RdO b g brk bs W
  bu : ButF g w W
  b2 : W.heap[G2]? = some (.cells #[.int .u8 0, .string ⟨#[]⟩, .int .i64 0, .int .u8 0, .int .i64 0, .string ⟨#[]⟩, .slice none 0 0, .slice none 0 0, .int .i64 0] 27 (0, 0))
  b3 : W.heap[G3]? = some (.cells row 27 (0, 0))
  l2 : w.heap.size ≤ G2
  l3 : G2 < G3
  lg : g < w.heap.size
  bw : Below b.heap.size b w
theorem OpS.but {b w W W' : World} {g G2 G3 : Nat} {row : Array Value} {brk brk' : Bool} {bs bs' : List UInt8} (h : OpS b w g G2 G3 row brk bs W) (hu : ButF g W W') (hr : RdO b g brk' bs' W') : OpS b w g G2 G3 row brk' bs' W' :=
  ⟨hr, h.bu.trans hu, (hu.block _ (Array.getElem?_eq_some_iff.1 h.b2).1 (by have := h.l2; have := h.lg; omega)).trans h.b2, (hu.block _ (Array.getElem?_eq_some_iff.1 h.b3).1 (by have := h.l2; have := h.l3; have := h.lg; omega)).trans h.b3, h.l2, h.l3, h.lg, h.bw⟩
theorem OpS.set {b w W : World} {g G2 G3 : Nat} {row : Array Value} {brk : Bool} {bs : List UInt8} (h : OpS b w g G2 G3 row brk bs W) (o : Nat) (v : Value) : OpS b w g G2 G3 (row.setIfInBounds o v) brk bs (W.setCell ⟨G3, o, none⟩ v) := by
  have l2 := h.l2
  have l3 := h.l3
  have lg := h.lg
  have lw := h.bw.size
  refine ⟨h.rd.kept (h.rd.below.setCell (p := ⟨G3, o, none⟩) (by show b.heap.size ≤ G3; omega) v) (Below.heap_setCell _ _ _ _ (by show g ≠ G3; omega)), h.bu.new (by omega) o v, (Below.heap_setCell _ _ _ _ (by show G2 ≠ G3; omega)).trans h.b2, ?_, l2, l3, lg, h.bw⟩
  exact heap_setCell_same _ _ _ _ _ _ h.b3
theorem OpS.cells {b w W : World} {g G2 G3 : Nat} {v0 v1 v2 v3 v4 v5 v6 v7 v8 : Value} {brk : Bool} {bs : List UInt8} (h : OpS b w g G2 G3 #[v0, v1, v2, v3, v4, v5, v6, v7, v8] brk bs W) : (W.cell? ⟨G3, 0, none⟩ = some v0 ∧ W.cell? ⟨G3, 1, none⟩ = some v1 ∧ W.cell? ⟨G3, 2, none⟩ = some v2 ∧ W.cell? ⟨G3, 3, none⟩ = some v3 ∧ W.cell? ⟨G3, 4, none⟩ = some v4 ∧ W.cell? ⟨G3, 5, none⟩ = some v5 ∧ W.cell? ⟨G3, 6, none⟩ = some v6 ∧ W.cell? ⟨G3, 7, none⟩ = some v7 ∧ W.cell? ⟨G3, 8, none⟩ = some v8) ∧ ∀ i, W.frozen? ⟨G3, i, none⟩ = false := ⟨cells9 h.b3, fun _ => frozen_of_row _ _ _ _ _ h.b3⟩
/-- Nine cells of a block are written. -/
def set9 (W : World) (g : Nat) (v0 v1 v2 v3 v4 v5 v6 v7 v8 : Value) : World := ((((((((W.setCell ⟨g, 0, none⟩ v0).setCell ⟨g, 1, none⟩ v1).setCell ⟨g, 2, none⟩ v2).setCell ⟨g, 3, none⟩ v3).setCell ⟨g, 4, none⟩ v4).setCell ⟨g, 5, none⟩ v5).setCell ⟨g, 6, none⟩ v6).setCell ⟨g, 7, none⟩ v7).setCell ⟨g, 8, none⟩ v8
theorem set9_heap {W : World} {g : Nat} {u0 u1 u2 u3 u4 u5 u6 u7 u8 : Value} {t : TypeId} (h : W.heap[g]? = some (.cells #[u0, u1, u2, u3, u4, u5, u6, u7, u8] t (0, 0))) (v0 v1 v2 v3 v4 v5 v6 v7 v8 : Value) :
    (set9 W g v0 v1 v2 v3 v4 v5 v6 v7 v8).heap[g]? = some (.cells #[v0, v1, v2, v3, v4, v5, v6, v7, v8] t (0, 0)) := by
  unfold set9
  have h0 := heap_setCell_same _ _ 0 _ _ v0 h
  simp only [List.setIfInBounds_toArray, List.set_cons_zero] at h0
  have h1 := heap_setCell_same _ _ 1 _ _ v1 h0
  simp only [List.setIfInBounds_toArray, List.set_cons_zero, List.set_cons_succ] at h1
  have h2 := heap_setCell_same _ _ 2 _ _ v2 h1
  simp only [List.setIfInBounds_toArray, List.set_cons_zero, List.set_cons_succ] at h2
  have h3 := heap_setCell_same _ _ 3 _ _ v3 h2
  simp only [List.setIfInBounds_toArray, List.set_cons_zero, List.set_cons_succ] at h3
  have h4 := heap_setCell_same _ _ 4 _ _ v4 h3
  simp only [List.setIfInBounds_toArray, List.set_cons_zero, List.set_cons_succ] at h4
  have h5 := heap_setCell_same _ _ 5 _ _ v5 h4
  simp only [List.setIfInBounds_toArray, List.set_cons_zero, List.set_cons_succ] at h5
  have h6 := heap_setCell_same _ _ 6 _ _ v6 h5
  simp only [List.setIfInBounds_toArray, List.set_cons_zero, List.set_cons_succ] at h6
  have h7 := heap_setCell_same _ _ 7 _ _ v7 h6
  simp only [List.setIfInBounds_toArray, List.set_cons_zero, List.set_cons_succ] at h7
  have h8 := heap_setCell_same _ _ 8 _ _ v8 h7
  simp only [List.setIfInBounds_toArray, List.set_cons_zero, List.set_cons_succ] at h8
  exact h8
theorem set9_other {k g : Nat} {W : World} (hk : k ≠ g) (v0 v1 v2 v3 v4 v5 v6 v7 v8 : Value) : (set9 W g v0 v1 v2 v3 v4 v5 v6 v7 v8).heap[k]? = W.heap[k]? := by
  unfold set9
  rw [Below.heap_setCell _ _ _ _ hk, Below.heap_setCell _ _ _ _ hk, Below.heap_setCell _ _ _ _ hk, Below.heap_setCell _ _ _ _ hk, Below.heap_setCell _ _ _ _ hk, Below.heap_setCell _ _ _ _ hk, Below.heap_setCell _ _ _ _ hk, Below.heap_setCell _ _ _ _ hk, Below.heap_setCell _ _ _ _ hk]
theorem set9_but {g0 g : Nat} {w W : World} (h : ButF g0 w W) (hg : w.heap.size ≤ g) (v0 v1 v2 v3 v4 v5 v6 v7 v8 : Value) : ButF g0 w (set9 W g v0 v1 v2 v3 v4 v5 v6 v7 v8) := by
  unfold set9
  exact (((((((((h.new hg 0 v0).new hg 1 v1).new hg 2 v2).new hg 3 v3).new hg 4 v4).new hg 5 v5).new hg 6 v6).new hg 7 v7).new hg 8 v8)

/-- What the reader's op tells. -/
def OpM (b : World) (g : Nat) (bs : List UInt8) (w : World) (e : Ending) (W : World) : Prop := ∃ (o : OD) (u : Value) (brk' : Bool) (bs' : List UInt8), e = .returned u ∧ o.At (fun k => w.heap.size ≤ k) W u ∧ o.Lt ∧ RdO b g brk' bs' W ∧ ButF g w W ∧ OpOk bs o brk' bs'
theorem op_done {b w W : World} {g G2 G3 : Nat} {brk : Bool} {bs0 bs' : List UInt8} {o : OD} {L : Nat} {s : ByteArray} {t : Int} {K : Nat} {N : Int} {z : ByteArray} {a : Option Addr} {m c : Nat} {fa : Option Addr} {fn fc : Nat} {q : Int}
    (h : OpS b w g G2 G3 #[.int .u8 ((L : Nat) : Int), .string s, .int .i64 t, .int .u8 ((K : Nat) : Int), .int .i64 N, .string z, .slice a m c, .slice fa fn fc, .int .i64 q] brk bs' W)
    (hL : L = o.what) (hs : s = ⟨o.id.toArray⟩) (ht : t = o.token) (hq : q = o.quota) (hf : o.Fits) (hv : o.value.At (fun k => G3 < k) W (.agg #[.int .u8 ((K : Nat) : Int), .int .i64 N, .string z, .slice a m c])) (hF : FragAt (fun k => G3 < k) W o.frag (.slice fa fn fc)) (hlt : o.Lt) (hok : OpOk bs0 o brk bs') :
    OpM b g bs0 w (.returned (.agg #[.int .u8 ((L : Nat) : Int), .string s, .int .i64 t, .int .u8 ((K : Nat) : Int), .int .i64 N, .string z, .slice a m c, .slice fa fn fc, .int .i64 q])) (set9 W G2 (.int .u8 ((L : Nat) : Int)) (.string s) (.int .i64 t) (.int .u8 ((K : Nat) : Int)) (.int .i64 N) (.string z) (.slice a m c) (.slice fa fn fc) (.int .i64 q)) := by
  have l2 := h.l2
  have l3 := h.l3
  have lg := h.lg
  have hu := set9_but h.bu l2 (.int .u8 ((L : Nat) : Int)) (.string s) (.int .i64 t) (.int .u8 ((K : Nat) : Int)) (.int .i64 N) (.string z) (.slice a m c) (.slice fa fn fc) (.int .i64 q)
  have hk : ∀ k, G3 < k → k < W.heap.size → (set9 W G2 (.int .u8 ((L : Nat) : Int)) (.string s) (.int .i64 t) (.int .u8 ((K : Nat) : Int)) (.int .i64 N) (.string z) (.slice a m c) (.slice fa fn fc) (.int .i64 q)).heap[k]? = W.heap[k]? := fun k hk _ => set9_other (by omega) _ _ _ _ _ _ _ _ _
  refine ⟨o, _, brk, bs', rfl, OD.Parts.at ⟨hL, hs, ht, hq, hf, ?_, ?_⟩, hlt, ?_, hu, hok⟩
  · exact hv.kept hk fun k h1 _ => by omega
  · exact hF.kept hk fun k h1 _ => by omega
  · exact h.rd.kept (hu.below h.bw h.rd.new) (set9_other (by omega) _ _ _ _ _ _ _ _ _)
theorem VD.At.set {B0 : Nat} {W : World} {v : VD} {u : Value} (h : v.At (fun k => B0 < k) W u) (o : Nat) (x : Value) : v.At (fun k => B0 < k) (W.setCell ⟨B0, o, none⟩ x) u := h.kept (fun k hk _ => Below.heap_setCell _ _ _ _ (by show k ≠ B0; omega)) (fun _ hk _ => hk)
theorem VD.At.butF {B0 g : Nat} {W W' : World} {v : VD} {u : Value} (h : v.At (fun k => B0 < k) W u) (hu : ButF g W W') (hg : g < B0) : v.At (fun k => B0 < k) W' u := h.kept (fun k hk hl => hu.block k hl (by omega)) (fun _ hk _ => hk)
theorem FragAt.set {B0 : Nat} {W : World} {l : List FI} {u : Value} (h : FragAt (fun k => B0 < k) W l u) (o : Nat) (x : Value) : FragAt (fun k => B0 < k) (W.setCell ⟨B0, o, none⟩ x) l u := h.kept (fun k hk _ => Below.heap_setCell _ _ _ _ (by show k ≠ B0; omega)) (fun _ hk _ => hk)
theorem FragAt.butF {B0 g : Nat} {W W' : World} {l : List FI} {u : Value} (h : FragAt (fun k => B0 < k) W l u) (hu : ButF g W W') (hg : g < B0) : FragAt (fun k => B0 < k) W' l u := h.kept (fun k hk hl => hu.block k hl (by omega)) (fun _ hk _ => hk)
end Go.Proofs.YtdlbpbglidhlfaaDoor

namespace Go.Proofs.YtdlbpbglidhlfaaDoor
open Go.RowKit

/-- A world in which all that was there in w0 is as it was. -/
def Later (w0 : World) := { W : World // Below w0.heap.size w0 W }
/-- The class of these worlds. -/
def IsLater (w0 : World) : World → Prop := fun W => ∃ x : Later w0, W = x.1
theorem Later.cell {w0 : World} {p : Addr} {v : Value} (h : w0.cell? p = some v) (x : Later w0) : x.1.cell? p = some v := (x.2.cell (World.block_lt_of_cell? _ _ h)).trans h
theorem Later.bytes {w0 : World} {u : Value} {bs : List UInt8} (h : Bytes w0 u bs) (x : Later w0) : Bytes x.1 u bs := h.kept fun k _ hk => x.2.block k hk
theorem Later.then {w0 : World} (x : Later w0) {W : World} (hb : Below x.1.heap.size x.1 W) : ∃ y : Later w0, W = y.1 := ⟨⟨W, x.2.trans (hb.mono x.2.size)⟩, rfl⟩
theorem Later.same {w0 : World} (x : Later w0) {W : World} (e : W = x.1) : ∃ y : Later w0, W = y.1 := ⟨x, e⟩
theorem wp_region_later {id : Nat} {Q : Exit → Act → World → Prop} {a : Act} {w : World} {l : List Oper} (hB : Region.lexB .any l.toArray = true)
    (h : wpQuiet Tryd.prog l.toArray (fun W => ∃ x : Later w, W = x.1) (fun a' => ∀ w', (∃ x : Later w, w' = x.1) → Q .normal a' w') l a) : (Code.region id l.toArray true).wp Tryd.prog Q a w :=
  wp_region_quiet (C := fun W => ∃ x : Later w, W = x.1) (by kernel_rfl) hB ⟨⟨_, (Below.refl _ w).drew⟩, rfl⟩ (by simpa using h)
end Go.Proofs.YtdlbpbglidhlfaaDoor

namespace Go.Proofs.YtdlbpbglidhlfaaDoor
open Go.RowKit

theorem VD.same_take {l q : List VD} {j : Nat} (hl : j < l.length) (hq : j < q.length) : VD.sameL (l.take (j + 1)) (q.take (j + 1)) = (VD.sameL (l.take j) (q.take j) && (l[j]).same (q[j])) := by
  induction j generalizing l q with
  | zero =>
    match l, q, hl, hq with
    | x :: l, y :: q, _, _ => simp [VD.sameL]
  | succ j ih =>
    match l, q, hl, hq with
    | x :: l, y :: q, hl, hq =>
      have := ih (l := l) (q := q) (by simpa using hl) (by simpa using hq)
      simp only [List.take_succ_cons, VD.sameL, List.getElem_cons_succ, this, Bool.and_assoc]
theorem VD.same_false {l q : List VD} {j : Nat} (hl : j < l.length) (hq : j < q.length) (h : (l[j]).same (q[j]) = false) : VD.sameL l q = false := by
  induction j generalizing l q with
  | zero =>
    match l, q, hl, hq, h with
    | x :: l, y :: q, _, _, h =>
      have h : x.same y = false := h
      simp [VD.sameL, h]
  | succ j ih =>
    match l, q, hl, hq, h with
    | x :: l, y :: q, hl, hq, h =>
      have := ih (l := l) (q := q) (by simpa using hl) (by simpa using hq) (by simpa using h)
      simp [VD.sameL, this]
theorem VD.sameL_length {l q : List VD} (h : l.length ≠ q.length) : VD.sameL l q = false := by
  induction l generalizing q with
  | nil => cases q with
    | nil => exact absurd rfl h
    | cons y q => rfl
  | cons x l ih => cases q with
    | nil => rfl
    | cons y q => simp [VD.sameL, ih (q := q) (by simpa using h)]
theorem VD.same_mk (v w : VD) : v.same w = (decide (v.k = w.k) && decide (v.n = w.n) && decide (v.s = w.s) && VD.sameL v.l w.l) := by
  obtain ⟨k, n, s, l⟩ := v
  obtain ⟨k', n', s', l'⟩ := w
  simp only [VD.same, VD.k, VD.n, VD.s, VD.l]
  rfl


end Go.Proofs.YtdlbpbglidhlfaaDoor
