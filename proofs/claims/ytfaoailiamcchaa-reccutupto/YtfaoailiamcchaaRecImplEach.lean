/- The function of package rec that tells records one by one. No statement of the seat is proved here. -/
import Derived.Test.YtfaoailiamcchaaRecImplTake
import Derived.Test.YtfaoailiamcchaaRangeTold
namespace Go.Proofs.Ytfaoailiamcchaa
open Go.RowKit Go.Shelf
attribute [local go_sem] Oper.semAt_some

/-- What is told of one record: it, where its bytes lie, the place behind it, the error. -/
structure Tk where
  r : RecD
  a : Option Addr
  n : Nat
  c : Nat
  fin : Nat
  err : Int
def Tk.enc (x : Tk) : Array Value := #[.agg #[.int .u8 (x.r.k.toNat : Nat), .slice x.a x.n x.c, .int .i64 ((x.fin : Nat) : Int), .int .i64 x.err]]
/-- Its bytes are new since w. -/
def Tk.At (w : World) (x : Tk) (W : World) : Prop := Own w (.slice x.a x.n x.c) x.r.d W
/-- The place behind the last one. -/
def lastFin (pre : List Tk) : Nat := (pre.getLast?.map Tk.fin).getD 0
theorem lastFin_snoc (pre : List Tk) (x : Tk) : lastFin (pre ++ [x]) = x.fin := by simp [lastFin]
/-- These have come, and no error. -/
structure Came (b : List UInt8) (pre : List Tk) : Prop where
  few : pre.length ≤ lastFin pre
  ok : ∀ x ∈ pre, x.err = 0
  all : ∀ rs n e, AllIs (b.drop (lastFin pre)) rs n e → AllIs b (pre.map Tk.r ++ rs) (lastFin pre + n) e
theorem Came.nil (b : List UInt8) : Came b [] := ⟨Nat.le_refl _, fun x hx => (by cases hx), fun rs n e h => by simpa [lastFin] using h⟩
theorem Came.snoc {b : List UInt8} {pre : List Tk} (h : Came b pre) {x : Tk} (hne : b.drop (lastFin pre) ≠ []) (he : takeErr (b.drop (lastFin pre)) = 0) (hr : x.r = takeRec (b.drop (lastFin pre))) (hf : x.fin = lastFin pre + takeLen (b.drop (lastFin pre))) (hx : x.err = 0) : Came b (pre ++ [x]) := by
  refine ⟨?_, fun y hy => ?_, fun rs n e h' => ?_⟩
  · rw [List.length_append, List.length_singleton, lastFin_snoc, hf]
    have := (put_take _ he).2.2.2.1
    have := h.few
    omega
  · rcases List.mem_append.1 hy with h1 | h1
    · exact h.ok y h1
    · rw [List.mem_singleton.1 h1]; exact hx
  · rw [lastFin_snoc, hf] at h' ⊢
    have h2 := h.all (takeRec (b.drop (lastFin pre)) :: rs) (takeLen (b.drop (lastFin pre)) + n) e (.more hne he (by rw [List.drop_drop]; exact h'))
    rw [List.map_append, List.append_assoc, Nat.add_assoc]
    show AllIs b (pre.map Tk.r ++ (x.r :: rs)) _ _
    rw [hr]
    exact h2
/-- All have come. -/
def AllCame (b : List UInt8) (ys : List Tk) : Prop := (∃ x ∈ ys, x.err ≠ 0) ∨ AllIs b (ys.map Tk.r) (lastFin ys) 0
/-- The loop was left. -/
def LeftOff (b : List UInt8) (pre : List Tk) : Prop := ∃ p x, pre = p ++ [x] ∧ (x.err ≠ 0 → AllIs b (p.map Tk.r) (lastFin p) x.err)
/-- What a round keeps. -/
def Keeps (n0 B : Nat) (X Y : World) : Prop := Below n0 X Y ∧ Y.heap[B]? = X.heap[B]?
theorem Keeps.trans {n0 B : Nat} {X Y Z : World} (h : Keeps n0 B X Y) (k : Keeps n0 B Y Z) : Keeps n0 B X Z := ⟨h.1.trans k.1, k.2.trans h.2⟩
theorem Keeps.later {n0 B : Nat} {X Y Z : World} (h : Keeps n0 B X Y) (hn : n0 ≤ Y.heap.size) (hB : B < Y.heap.size) (hb : Below Y.heap.size Y Z) : Keeps n0 B X Z := ⟨h.1.trans (hb.mono hn), (hb.block B hB).trans h.2⟩
theorem takeLen_le (b : List UInt8) : takeLen b ≤ b.length := by
  by_cases h : takeErr b = 0
  · exact (put_take b h).2.2.1
  · unfold takeLen; rw [if_neg h]; exact Nat.zero_le _

set_option maxRecDepth 100000 in
set_option maxHeartbeats 4000000 in
theorem each1_in (n : Nat) (hn : 1 ≤ n) (l Bb len cap : Nat) (a : Option Addr) (b : List UInt8) (w : World) (hlen : b.length = len) (hmax : len ≤ 1048576) (hB : Bytes w (.slice a len cap) b) (J Jx : List Tk → World → Prop)
    (hJ : ∀ pre A B, J pre A → Below A.heap.size A B → J pre B)
    (hY : ∀ pre x A, J pre A → Tk.At w x A → pre.length < len + 1 → YieldAt Fence.wide (n - 1) Try.prog l (Tk.enc x) A fun e B => (e = .returned (.bool true) ∧ J (pre ++ [x]) B ∧ Keeps w.heap.size Bb A B) ∨ (e = .returned (.bool false) ∧ Jx (pre ++ [x]) B))
    (W : World) (hW : Below w.heap.size w W) (hb : Boxed W Bb 22 (.slice a len cap)) (h0 : J [] W) :
    CallsIn Fence.wide n Try.prog 34 #[.func (.yield l) #[] #[], .pointer (some ⟨Bb, 0, none⟩)] W fun e W' => (∃ v, e = .returned v) ∧ ((∃ ys, AllCame b ys ∧ J ys W') ∨ (∃ pre, LeftOff b pre ∧ Jx pre W')) := by
  have HB := hide hB
  have HJ := hide hJ
  have HY := hide hY
  have HLEN := hide hlen
  have HW := hide hW
  have HBX := hide hb
  clear hB hJ hY hlen hW hb
  refine callsIn_of_wp Try.func34 rfl trivial ?_ rfl
  simp only [Try.ntmps34, List.size_toArray, List.length_cons, List.length_nil, Nat.reduceAdd, Nat.reduceSub, Array.replicate_succ, Array.replicate_zero, List.push_toArray, List.append_toArray, List.nil_append, List.cons_append]
  gi_wp2
  gi_loopw [3] (fun i wr => ∃ (t : Nat) (pre : List Tk), t ≤ len ∧ i = .int .i64 t ∧ lastFin pre = t ∧ Came b pre ∧ J pre wr ∧ Keeps w.heap.size Bb W wr) (fun i _ => len - (intOf i).toNat)
  case atStart => exact ⟨0, [], Nat.zero_le _, rfl, rfl, Came.nil b, h0, Below.refl _ _, rfl⟩
  case round =>
    obtain ⟨t, pre, ht, rfl, hlf, hC, hJs, hK⟩ := hrel
    have HC := hide hC
    have HJS := hide hJs
    have HK := hide hK
    have HLF := hide hlf
    have hbx : Boxed wr Bb 22 (.slice a len cap) := hK.2.trans (unhide HBX)
    have c0 := hbx.cell
    have HBL := hide hbx.lt
    have HWR : Hid (Below w.heap.size w wr) := (unhide HW).trans hK.1
    clear hC hJs hK hlf hbx
    by_cases hlt : t < len
    · obtain ⟨s, k, B, q, q'⟩ := slice_from (l := t) (unhide HB) (by omega)
      have HS : Hid (Bytes wr (.slice s (len - t) k) (b.drop t)) := B.kept fun k _ hk => (unhide HWR).block k hk
      have HNE : Hid (b.drop t ≠ []) := fun e => by have := congrArg List.length e; rw [List.length_drop] at this; have := unhide HLEN; simp at *; omega
      clear B
      gi_wp2
      refine ⟨trivial, (callsIn_wide.2 (recTake_any _ _ _ _ _ (unhide HS))).mono ?_⟩
      rintro e w2 ⟨a2, n2, c2, rfl, hF⟩
      clear q q' HS
      have hL := takeLen_le (b.drop t)
      rw [List.length_drop, unhide HLEN] at hL
      obtain ⟨x, hx⟩ : ∃ x, x = takeErr (b.drop t) := ⟨_, rfl⟩
      obtain ⟨L, hLd⟩ : ∃ L, L = takeLen (b.drop t) := ⟨_, rfl⟩
      obtain ⟨r, hr⟩ : ∃ r, r = takeRec (b.drop t) := ⟨_, rfl⟩
      rw [← hx, ← hLd, ← hr]
      rw [← hr] at hF
      rw [← hLd] at hL
      obtain ⟨E, hE⟩ : ∃ E, E = t + L := ⟨_, rfl⟩
      have g1 : IntKind.i64.wrap ((t : Int) + (L : Int)) = (E : Int) := by rw [IntKind.wrap_i64]; omega
      have g2 : (t : Int) + (L : Int) = (E : Int) := by omega
      have HX := hide hx
      have HLD := hide hLd
      have HR := hide hr
      have HE := hide hE
      have hEl : E ≤ len := by omega
      have HB3 : Hid (Below wr.heap.size wr (w2.alloc (.cells #[.int .u8 (r.k.toNat : Nat), .slice a2 n2 c2] 24))) := hF.1.2.2.alloc (hF.1.2.2.size) _
      have HF3 : Hid (Own w (.slice a2 n2 c2) r.d (w2.alloc (.cells #[.int .u8 (r.k.toNat : Nat), .slice a2 n2 c2] 24))) := (hF.own (unhide HWR)).alloc _
      have HJ3 : Hid (J pre (w2.alloc (.cells #[.int .u8 (r.k.toNat : Nat), .slice a2 n2 c2] 24))) := unhide HJ _ _ _ (unhide HJS) (unhide HB3)
      have HK3 := hide ((unhide HK).later (unhide HWR).size (unhide HBL) (unhide HB3))
      obtain ⟨fn, tmps, assign, body, hy, hRd⟩ := unhide HY pre ⟨r, a2, n2, c2, E, x⟩ _ (unhide HJ3) (unhide HF3) (by have := (unhide HC).few; rw [unhide HLF] at this; omega)
      dsimp only [Tk.enc] at hy
      clear hx hLd hr hE hF c0 hL
      gi_wp2
      refine hRd.mono ?_
      clear hRd hy
      rintro e W3 (⟨rfl, hJ4, hK4⟩ | ⟨rfl, hJx4⟩)
      · have HJ4 := hide hJ4
        have HK4 := hide ((unhide HK3).trans hK4)
        clear hJ4 hK4
        by_cases h0 : x = 0
        · subst h0
          have HL9 : Hid (9 ≤ L) := by show 9 ≤ L; rw [unhide HLD]; exact (put_take _ (unhide HX).symm).2.2.2.1
          gi_wp2
          go_roundw
          case rel => exact ⟨E, _, hEl, rfl, lastFin_snoc _ _, (unhide HC).snoc (by rw [unhide HLF]; exact unhide HNE) (by rw [unhide HLF]; exact (unhide HX).symm) (by rw [unhide HLF]; exact unhide HR) (by rw [unhide HLF, ← unhide HLD]; exact unhide HE) rfl, unhide HJ4, unhide HK4⟩
          case measure =>
            have := unhide HE
            have := unhide HL9
            simp [intOf]
            omega
        · have h0' : (x == 0) = false := beq_eq_false_iff_ne.2 h0
          have h0'' : (x != 0) = true := bne_iff_ne.2 h0
          have HX0 := hide h0
          clear h0
          gi_wp2
          refine bodyPost_ret (results_none rfl _ _ _) rfl ?_
          exact ⟨⟨_, rfl⟩, .inl ⟨_, .inl ⟨_, List.mem_append.2 (.inr (List.mem_singleton.2 rfl)), unhide HX0⟩, unhide HJ4⟩⟩
      · gi_wp2
        refine bodyPost_ret (results_none rfl _ _ _) rfl ?_
        refine ⟨⟨_, rfl⟩, .inr ⟨_, ⟨pre, _, rfl, fun he => ?_⟩, hJx4⟩⟩
        have := (unhide HC).all [] 0 x (by rw [unhide HLF, unhide HX]; exact .stop (unhide HNE) (by rw [← unhide HX]; exact he))
        simpa using this
    · obtain rfl : t = len := by omega
      have hge : ¬ ((t : Nat) : Int) < ((t : Nat) : Int) := by omega
      gi_wp2
      go_end0
      refine ⟨⟨_, rfl⟩, .inl ⟨pre, .inr ?_, unhide HJS⟩⟩
      have := (unhide HC).all [] 0 0 (by rw [unhide HLF, List.drop_of_length_le (by rw [unhide HLEN]; exact Nat.le_refl _)]; exact .none)
      simpa using this
end Go.Proofs.Ytfaoailiamcchaa
