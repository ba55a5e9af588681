/- slices.Chunk, as package batch ranges over it. No statement of the seat is proved here. -/
import Derived.Test.YtbbglgfgelnncaaBatchOk
import Derived.Test.YtbbglgfgelnncaaRangeTold
import Derived.Stop.RegionWithIn
namespace Go.Proofs.Ytbbglgfgelnncaa
open Go.RowKit Go.Shelf
attribute [local go_sem] Oper.semAt_some

/-- b[l:h:h]: its value, whatever the world, and its bytes. -/
theorem slice_three {w : World} {a : Option Addr} {n c l h : Nat} {bs : List UInt8} (hb : Bytes w (.slice a n c) bs) (h1 : l ≤ h) (h2 : h ≤ n) : ∃ sa sc, Bytes w (.slice sa (h - l) sc) ((bs.drop l).take (h - l)) ∧ (∀ W : World, (Instr.slice 23 (.slice a n c) (some (.int .i64 (l : Nat))) (some (.int .i64 (h : Nat))) (some (.int .i64 (h : Nat)))).run Try.prog W = .ok (.slice sa (h - l) sc) W) ∧ (∀ W : World, (Instr.sliceAt 23 (.slice a n c) (some (.int .i64 (l : Nat))) (some (.int .i64 (h : Nat))) (some (.int .i64 (h : Nat)))).run Try.prog W = .ok (.slice sa (h - l) sc) W) := by
  obtain ⟨hl, hnc⟩ := bytes_len hb
  have hu : Try.prog.underlying 23 = some (.slice 5) := Try.underlying23
  have hel : Try.prog.elem 23 = 5 := by unfold Program.elem; rw [hu]
  have hu' : Try.prog.underlying 23 = some (.slice (Try.prog.elem 23)) := by rw [hel]; exact hu
  have hr : ∀ W : World, (Instr.slice 23 (.slice a n c) (some (.int .i64 (l : Nat))) (some (.int .i64 (h : Nat))) (some (.int .i64 (h : Nat)))).run Try.prog W = .ok (.slice (if h = l then a else a.map (·.add l)) (h - l) (h - l)) W := fun W => by
    rw [run_slice_lhm W 23 a n c hu' .i64 .i64 .i64 l h h (by omega) (by omega) (by omega) (by omega), hel]
    have hsz : (sizeOf 5).run Try.prog W = .ok 1 W := by simp [sizeOf]; rfl
    rw [hsz]
    simp only [Result.andThen, sliced, Int.toNat_natCast, Nat.mul_one]
  refine ⟨_, _, ?_, hr, fun W => by rw [run_sliceAt_slice W _ _ _ _ _ hu']; exact hr W⟩
  have hdl : ((bs.drop l).take (h - l)).length = h - l := by rw [List.length_take, List.length_drop]; omega
  rcases hb with ⟨hv, hbn⟩ | ⟨ad, c', hv, hl1, hl2, hbb⟩
  · simp only [Value.slice.injEq] at hv
    obtain ⟨rfl, hn, rfl⟩ := hv
    have e1 : l = 0 := by omega
    have e2 : h = 0 := by omega
    subst e1 e2
    exact .inl ⟨by simp, by rw [hbn]; simp⟩
  · simp only [Value.slice.injEq] at hv
    obtain ⟨rfl, _, rfl⟩ := hv
    by_cases hc : h = l
    · rw [if_pos hc]
      have e0 : h - l = 0 := by omega
      rw [e0]
      exact .inr ⟨ad, 0, rfl, Nat.zero_le _, by omega, fun j x hx => by simp at hx⟩
    · rw [if_neg hc]
      refine .inr ⟨ad.add l, h - l, by rw [hdl]; rfl, by rw [hdl]; omega, by omega, fun j x hx => ?_⟩
      have hj : j < h - l := by have := (List.getElem?_eq_some_iff.1 hx).1; rw [List.length_map, hdl] at this; exact this
      have := hbb (l + j) x (by rw [List.map_take, List.map_drop, List.getElem?_take, if_pos hj, List.getElem?_drop] at hx; exact hx)
      rwa [Addr.add_add]

/-- One chunk: where it lies, its bytes. -/
structure Ck where
  a : Option Addr
  n : Nat
  c : Nat
  bs : List UInt8
def Ck.enc (x : Ck) : Array Value := #[.slice x.a x.n x.c]
def Ck.At (w : World) (x : Ck) (_ : World) : Prop := Bytes w (.slice x.a x.n x.c) x.bs ∧ x.bs.length ≤ 4096
/-- What a round keeps. -/
def KeepsC (n0 B : Nat) (X Y : World) : Prop := Below n0 X Y ∧ Y.heap[B]? = X.heap[B]? ∧ Y.heap[B + 1]? = X.heap[B + 1]?
theorem KeepsC.trans {n0 B : Nat} {X Y Z : World} (h : KeepsC n0 B X Y) (k : KeepsC n0 B Y Z) : KeepsC n0 B X Z := ⟨h.1.trans k.1, k.2.1.trans h.2.1, k.2.2.trans h.2.2⟩
theorem KeepsC.later {n0 B : Nat} {X Y Z : World} (h : KeepsC n0 B X Y) (hn : n0 ≤ Y.heap.size) (hB : B + 1 < Y.heap.size) (hb : Below Y.heap.size Y Z) : KeepsC n0 B X Z := ⟨h.1.trans (hb.mono hn), (hb.block B (by omega)).trans h.2.1, (hb.block (B + 1) hB).trans h.2.2⟩
/-- Cut up to t. -/
def Cutting (b : List UInt8) (pre : List Ck) (t : Nat) : Prop := (t ≤ b.length ∧ t = 4096 * pre.length ∧ (∀ x ∈ pre, x.bs.length = 4096) ∧ (pre.map Ck.bs).flatten = b.take t) ∨ (b.length < t ∧ t ≤ b.length + 4096 ∧ CutIs b (pre.map Ck.bs))
theorem Cutting.start (b : List UInt8) : Cutting b [] 0 := .inl ⟨Nat.zero_le _, rfl, fun x hx => (by cases hx), by simp⟩
theorem Cutting.done {b : List UInt8} {pre : List Ck} {t : Nat} (h : Cutting b pre t) (ht : b.length ≤ t) (hb : b ≠ []) : CutIs b (pre.map Ck.bs) := by
  rcases h with ⟨h1, h2, h3, h4⟩ | ⟨_, _, h⟩
  · have hp : 0 < b.length := List.length_pos_iff.2 hb
    have hpe : pre ≠ [] := fun e => by rw [e] at h2; simp at h2; omega
    obtain ⟨p, x, rfl⟩ : ∃ p x, pre = p ++ [x] := ⟨_, _, (List.dropLast_concat_getLast hpe).symm⟩
    have hx := h3 x (by simp)
    refine ⟨p.map Ck.bs, x.bs, by simp, ?_, fun y hy => ?_, by omega, .inl fun e => by rw [e] at hx; cases hx⟩
    · rw [List.map_append, List.flatten_append, List.take_of_length_le ht] at h4
      rw [← h4]
      simp
    · obtain ⟨z, hz, rfl⟩ := List.mem_map.1 hy
      exact h3 z (by simp [hz])
  · exact h
theorem Cutting.few {b : List UInt8} {pre : List Ck} {t : Nat} (h : Cutting b pre t) (ht : t < b.length) : pre.length ≤ t := by
  rcases h with ⟨_, h2, _⟩ | ⟨h, _⟩
  · omega
  · omega
theorem Cutting.next {b : List UInt8} {pre : List Ck} {t : Nat} (h : Cutting b pre t) (ht : t < b.length) {x : Ck} {m : Nat} (hm : m = min 4096 (b.length - t)) (hx : x.bs = (b.drop t).take m) : Cutting b (pre ++ [x]) (t + 4096) := by
  rcases h with ⟨h1, h2, h3, h4⟩ | ⟨h, _⟩
  · have hxl : x.bs.length = m := by rw [hx, List.length_take, List.length_drop]; omega
    by_cases hle : t + 4096 ≤ b.length
    · have hm4 : m = 4096 := by omega
      refine .inl ⟨hle, by rw [List.length_append, List.length_singleton]; omega, fun y hy => ?_, ?_⟩
      · rcases List.mem_append.1 hy with h | h
        · exact h3 y h
        · rw [List.mem_singleton.1 h]; omega
      · rw [hm4] at hx
        rw [List.map_append, List.flatten_append, h4, List.take_add, List.map_singleton, List.flatten_singleton, hx]
    · refine .inr ⟨by omega, by omega, pre.map Ck.bs, x.bs, by simp, ?_, fun y hy => ?_, by omega, .inl fun e => by rw [e] at hxl; simp at hxl; omega⟩
      · rw [h4, hx, List.take_of_length_le (l := b.drop t) (by rw [List.length_drop]; omega), List.take_append_drop]
      · obtain ⟨z, hz, rfl⟩ := List.mem_map.1 hy
        exact h3 z hz
  · omega

theorem chunk_any (a : Option Addr) (n c : Nat) (w : World) : Calls Try.prog 35 #[.slice a n c, .int .i64 4096] w fun e w' => e = .returned (.func (.func 46) #[] #[.pointer (some ⟨w.heap.size, 0, none⟩), .pointer (some ⟨w.heap.size + 1, 0, none⟩)]) ∧ w' = (w.alloc (.cells #[.slice a n c] 23)).alloc (.cells #[.int .i64 4096] 3) := by
  go_enter Try.func35, Try.ntmps35
  go_wp2
  go_ret
  exact ⟨by simp, by simp⟩

set_option maxRecDepth 100000 in
set_option maxHeartbeats 4000000 in
theorem chunk1_in (n : Nat) (hn : 1 ≤ n) (l Bb len cap : Nat) (a : Option Addr) (b : List UInt8) (w : World) (hlen : b.length = len) (hmax : len ≤ 1048576) (hne : b ≠ []) (hB : Bytes w (.slice a len cap) b) (J Jx : List Ck → World → Prop)
    (hJ : ∀ pre A B, J pre A → Below A.heap.size A B → J pre B)
    (hY : ∀ pre x A, J pre A → Ck.At w x A → pre.length < len + 1 → YieldAt Fence.wide (n - 1) Try.prog l (Ck.enc x) A fun e B => (e = .returned (.bool true) ∧ J (pre ++ [x]) B ∧ KeepsC w.heap.size Bb A B) ∨ (e = .returned (.bool false) ∧ Jx (pre ++ [x]) B))
    (W : World) (hW : Below w.heap.size w W) (hb : Boxed W Bb 23 (.slice a len cap)) (hb2 : Boxed W (Bb + 1) 3 (.int .i64 4096)) (h0 : J [] W) :
    CallsIn Fence.wide n Try.prog 46 #[.func (.yield l) #[] #[], .pointer (some ⟨Bb, 0, none⟩), .pointer (some ⟨Bb + 1, 0, none⟩)] W fun e W' => (∃ v, e = .returned v) ∧ ((∃ ys, CutIs b (ys.map Ck.bs) ∧ J ys W') ∨ (∃ pre, True ∧ Jx pre W')) := by
  have HB := hide hB
  have HJ := hide hJ
  have HY := hide hY
  have HLEN := hide hlen
  have HW := hide hW
  have HBX := hide hb
  have HBX2 := hide hb2
  have HNE := hide hne
  clear hB hJ hY hlen hW hb hb2 hne
  refine callsIn_of_wp Try.func46 rfl trivial ?_ rfl
  simp only [Try.ntmps46, List.size_toArray, List.length_cons, List.length_nil, Nat.reduceAdd, Nat.reduceSub, Array.replicate_succ, Array.replicate_zero, List.push_toArray, List.append_toArray, List.nil_append, List.cons_append]
  gi_wp2
  gi_loopw [4] (fun i wr => ∃ (t : Nat) (pre : List Ck), t ≤ len + 4096 ∧ i = .int .i64 t ∧ Cutting b pre t ∧ J pre wr ∧ KeepsC w.heap.size Bb W wr) (fun i _ => len + 4096 - (intOf i).toNat)
  case atStart => exact ⟨0, [], Nat.zero_le _, rfl, Cutting.start b, h0, Below.refl _ _, rfl, rfl⟩
  case round =>
    obtain ⟨t, pre, ht, rfl, hC, hJs, hK⟩ := hrel
    have HC := hide hC
    have HJS := hide hJs
    have HK := hide hK
    have hbx : Boxed wr Bb 23 (.slice a len cap) := hK.2.1.trans (unhide HBX)
    have hbx2 : Boxed wr (Bb + 1) 3 (.int .i64 4096) := hK.2.2.trans (unhide HBX2)
    have c0 := hbx.cell
    have c1 := hbx2.cell
    have HBL := hide hbx2.lt
    have HWR : Hid (Below w.heap.size w wr) := (unhide HW).trans hK.1
    clear hC hJs hK hbx hbx2
    by_cases hlt : t < len
    · obtain ⟨m, hm⟩ : ∃ m, m = min 4096 (len - t) := ⟨_, rfl⟩
      obtain ⟨s, k, B, q, q'⟩ := slice_from (l := t) (unhide HB) (by omega)
      clear B
      have hif : (if ((len - t : Nat) : Int) < 4096 then ((len - t : Nat) : Int) else 4096) = (m : Int) := by rw [hm]; split <;> omega
      have HM : Hid (m = min 4096 (len - t)) := hm
      have hm4 : m ≤ 4096 := by omega
      have hmt : t + m ≤ len := by omega
      clear hm
      gi_wp2
      gi_region
      obtain ⟨E, hE⟩ : ∃ E, E = t + m := ⟨_, rfl⟩
      have hEn : E ≤ len := by omega
      have hEm : E - t = m := by omega
      obtain ⟨s3, k3, B3, q3, q3'⟩ := slice_three (l := t) (h := E) (unhide HB) (by omega) hEn
      rw [hEm] at B3 q3 q3'
      have g2 : (t : Int) + (m : Int) = (E : Int) := by omega
      have hb2 : Below wr.heap.size wr wr.drew := (Below.refl _ _).drew
      have c0' : wr.drew.cell? ⟨Bb, 0, none⟩ = some (.slice a len cap) := c0
      have c1' : wr.drew.cell? ⟨Bb + 1, 0, none⟩ = some (.int .i64 4096) := c1
      have HJ3 : Hid (J pre wr.drew) := unhide HJ _ _ _ (unhide HJS) hb2
      have HK3 := hide ((unhide HK).later (unhide HWR).size (unhide HBL) hb2)
      have HBM : Hid (((b.drop t).take m).length ≤ 4096) := by show _ ≤ _; rw [List.length_take]; omega
      obtain ⟨fn, tmps, assign, body, hy, hRd⟩ := unhide HY pre ⟨s3, m, k3, (b.drop t).take m⟩ _ (unhide HJ3) ⟨B3, unhide HBM⟩ (by have := (unhide HC).few (by have := unhide HLEN; omega); omega)
      dsimp only [Ck.enc] at hy
      clear hif q q' c0 c1 hb2 B3 HJS hE hEm
      generalize wr.drew = W2 at *
      gi_wp2
      refine hRd.mono ?_
      clear hRd hy
      rintro e W3 (⟨rfl, hJ4, hK4⟩ | ⟨rfl, hJx4⟩)
      · have HJ4 := hide hJ4
        have HK4 := hide ((unhide HK3).trans hK4)
        have cc : W3.cell? ⟨Bb + 1, 0, none⟩ = some (.int .i64 4096) := by
          have h : Boxed W3 (Bb + 1) 3 (.int .i64 4096) := (unhide HK4).2.2.trans (unhide HBX2)
          exact h.cell
        clear hJ4 hK4 c0' c1'
        gi_wp2
        go_roundw
        case rel => exact ⟨t + 4096, _, by omega, by go_num, (unhide HC).next (by have := unhide HLEN; omega) (by rw [unhide HLEN]; exact unhide HM) rfl, unhide HJ4, unhide HK4⟩
        case measure =>
          simp [intOf]
          omega
      · gi_wp2
        refine bodyPost_ret (results_none rfl _ _ _) rfl ?_
        exact ⟨⟨_, rfl⟩, .inr ⟨_, trivial, hJx4⟩⟩
    · have hge : ¬ ((t : Nat) : Int) < ((len : Nat) : Int) := by omega
      gi_wp2
      go_end0
      exact ⟨⟨_, rfl⟩, .inl ⟨pre, (unhide HC).done (by have := unhide HLEN; omega) (unhide HNE), unhide HJS⟩⟩
end Go.Proofs.Ytbbglgfgelnncaa
