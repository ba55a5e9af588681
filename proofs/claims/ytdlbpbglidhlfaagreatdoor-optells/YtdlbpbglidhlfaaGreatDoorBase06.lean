/- ValRefG, ValImplT, ValReadsP: our own definitions and contracts; no statement of the seat is proved here. -/
import Derived.Test.YtdlbpbglidhlfaaGreatDoorBase05
import Derived.Test.YtdlbpbglidhlfaaGreatDoorBase00
import Derived.Lib.AppendZeros
import Derived.Test.YtdlbpbglidhlfaaGreatDoorBase04
import Derived.WalkLawsBesides
namespace Go.Proofs.YtdlbpbglidhlfaaGreatDoor
open Go.RowKit Go.Lib

theorem Bytes.laterW3 {w w' : World} {u : Value} {bs : List UInt8} (h : Bytes w u bs) (hb : Below w.heap.size w w') : Bytes w' u bs := h.kept fun k _ hk => hb.block k hk
def zeroV : Value := .agg #[.int .u8 0, .int .i64 0, .string ⟨#[]⟩, .slice none 0 0]
/-- What read tells of bytes. -/
def TookV (w : World) (bs : List UInt8) (d : Nat) (e : Ending) (w' : World) : Prop :=
  (∃ v j u, VReads bs d v j ∧ e = .returned (.tuple #[u, .int .i64 ((j : Nat) : Int)]) ∧ v.At (fun k => w.heap.size ≤ k) w' u) ∨ (NoVal bs d ∧ e = .returned (.tuple #[zeroV, .int .i64 0]))

theorem results_ctv {P : Program} {fn : Func} {p u : Tmp} {ty : TypeId} (h : fn.results = #[.cell p ty, .tmp u]) (tmps : Array Value) (w : World) (g : Nat) (t : TypeId) (cs : Array Value) (fr : Nat × Nat) (d : TypeDesc)
    (hp : tmps.getD p undef = .pointer (some ⟨g, 0, none⟩)) (hg : w.heap[g]? = some (.cells cs t fr))
    (hu : P.underlying ty = some d) (hd : (match d with | .struct _ | .array _ _ => true | _ => false) = true) (hi : (P.info? ty).map (·.size) = some cs.size) :
    (results fn tmps).run P w = .ok (.tuple #[.agg cs, tmps.getD u undef]) w := by
  have hp' : tmps[p]?.getD undef = .pointer (some ⟨g, 0, none⟩) := by simpa using hp
  simp only [results, h]
  simp [Result.andThen, hp', asAddr, run_loadVar_row w g t ty cs fr d hg hu hd hi]
theorem set4_heap {W : World} {g : Nat} {v0 v1 v2 v3 : Value} {t : TypeId} (h : W.heap[g]? = some (.cells #[v0, v1, v2, v3] t (0, 0))) (x y z u : Value) : ((((W.setCell ⟨g, 0, none⟩ x).setCell ⟨g, 1, none⟩ y).setCell ⟨g, 2, none⟩ z).setCell ⟨g, 3, none⟩ u).heap[g]? = some (.cells #[x, y, z, u] t (0, 0)) := by
  rw [heap_setCell_same _ _ _ _ _ _ (heap_setCell_same _ _ _ _ _ _ (heap_setCell_same _ _ _ _ _ _ (heap_setCell_same _ _ _ _ _ _ h)))]; rfl
theorem set4_below {B : Nat} {w W : World} {g : Nat} (h : Below B w W) (hg : B ≤ g) (x y z u : Value) : Below B w ((((W.setCell ⟨g, 0, none⟩ x).setCell ⟨g, 1, none⟩ y).setCell ⟨g, 2, none⟩ z).setCell ⟨g, 3, none⟩ u) :=
  (((h.setCell (p := ⟨g, 0, none⟩) hg x).setCell (p := ⟨g, 1, none⟩) hg y).setCell (p := ⟨g, 2, none⟩) hg z).setCell (p := ⟨g, 3, none⟩) hg u

/-- A struct's block, for the walk. -/
theorem cells4 {W : World} {g : Nat} {v0 v1 v2 v3 : Value} {t : TypeId} (h : W.heap[g]? = some (.cells #[v0, v1, v2, v3] t (0, 0))) : (W.cell? ⟨g, 0, none⟩ = some v0 ∧ W.cell? ⟨g, 1, none⟩ = some v1 ∧ W.cell? ⟨g, 2, none⟩ = some v2 ∧ W.cell? ⟨g, 3, none⟩ = some v3) ∧ (W.frozen? ⟨g, 0, none⟩ = false ∧ W.frozen? ⟨g, 1, none⟩ = false ∧ W.frozen? ⟨g, 2, none⟩ = false ∧ W.frozen? ⟨g, 3, none⟩ = false) :=
  ⟨⟨cell_of_row _ _ 0 _ _ _ h, cell_of_row _ _ 1 _ _ _ h, cell_of_row _ _ 2 _ _ _ h, cell_of_row _ _ 3 _ _ _ h⟩, frozen_of_row _ _ _ _ _ h, frozen_of_row _ _ _ _ _ h, frozen_of_row _ _ _ _ _ h, frozen_of_row _ _ _ _ _ h⟩

/-- The answer of no value, at the return. -/
theorem took_no {w W : World} {bs : List UInt8} {d : Nat} {x y z u : Value} (hN : NoVal bs d) (hb : Below w.heap.size w W) (hx : Value.agg #[x, y, z, u] = zeroV) : TookV w bs d (.returned (.tuple #[.agg #[x, y, z, u], .int .i64 0])) ((((W.setCell ⟨w.heap.size, 0, none⟩ x).setCell ⟨w.heap.size, 1, none⟩ y).setCell ⟨w.heap.size, 2, none⟩ z).setCell ⟨w.heap.size, 3, none⟩ u) ∧ Below w.heap.size w ((((W.setCell ⟨w.heap.size, 0, none⟩ x).setCell ⟨w.heap.size, 1, none⟩ y).setCell ⟨w.heap.size, 2, none⟩ z).setCell ⟨w.heap.size, 3, none⟩ u) :=
  ⟨.inr ⟨hN, by rw [hx]⟩, set4_below hb (Nat.le_refl _) _ _ _ _⟩

theorem lt_rowV {W : World} {k : Nat} {o : Obj} (h : W.heap[k]? = some o) : k < W.heap.size := by
  rcases Nat.lt_or_ge k W.heap.size with h1 | h1
  · exact h1
  · rw [Array.getElem?_eq_none h1] at h; cases h
/-- The value under way, in a second block. -/
theorem second {w w1 : World} {k : Value} (h1 : Below w.heap.size w w1) (h4 : w1.heap[w.heap.size]? = some (.cells #[.int .u8 0, .int .i64 0, .string ⟨#[]⟩, .slice none 0 0] 24 (0, 0))) {W : World} (hW : W = w1.alloc (.cells #[k, .int .i64 0, .string ⟨#[]⟩, .slice none 0 0] 24)) : Below w1.heap.size w1 W ∧ Below w.heap.size w W ∧ W.heap[w.heap.size]? = some (.cells #[.int .u8 0, .int .i64 0, .string ⟨#[]⟩, .slice none 0 0] 24 (0, 0)) ∧ W.heap[w1.heap.size]? = some (.cells #[k, .int .i64 0, .string ⟨#[]⟩, .slice none 0 0] 24 (0, 0)) := by
  have hb : Below w1.heap.size w1 W := by rw [hW]; exact (Below.refl _ w1).alloc (Nat.le_refl _) _
  refine ⟨hb, ?_, ?_, ?_⟩
  · rw [hW]; exact h1.alloc h1.size _
  · rw [hb.block _ (lt_rowV h4)]; exact h4
  · rw [hW]; exact heap_alloc_new w1 _

/-- A store into the value under way. -/
theorem second_set {B g g8 : Nat} {w W W' : World} {r0 r1 : Array Value} {t t' : TypeId} (hb : Below B w W) (h4 : W.heap[g]? = some (.cells r0 t (0, 0))) (h8 : W.heap[g8]? = some (.cells r1 t' (0, 0))) (hB : B ≤ g8) (hne : g ≠ g8) (i : Nat) (x : Value) (hW : W' = W.setCell ⟨g8, i, none⟩ x) : Below B w W' ∧ W'.heap[g]? = some (.cells r0 t (0, 0)) ∧ W'.heap[g8]? = some (.cells (r1.setIfInBounds i x) t' (0, 0)) := by
  refine ⟨?_, ?_, ?_⟩
  · rw [hW]; exact hb.setCell (p := ⟨g8, i, none⟩) hB x
  · rw [hW, Below.heap_setCell _ _ _ _ hne]; exact h4
  · rw [hW]; exact heap_setCell_same _ _ _ _ _ _ h8

theorem VReads.pos {b : List UInt8} {d : Nat} {v : VD} {j : Nat} (h : VReads b d v j) : 0 < j := by
  have hp := h.kind.1.pos
  rw [h.len]
  rcases VD.kinds_cases h.kinds with ⟨n, rfl⟩ | ⟨s, rfl, _⟩ | ⟨l, rfl, _⟩
  · have e : VD.bytes (.mk 0 n [] []) = numB ((0 : Nat) : Int) ++ numB n := rfl
    rw [e, List.length_append]; have := numB_pos ((0 : Nat) : Int); omega
  · have e : VD.bytes (.mk 1 0 s []) = numB ((1 : Nat) : Int) ++ textB s := rfl
    rw [e, List.length_append]; have := numB_pos ((1 : Nat) : Int); omega
  · have e : VD.bytes (.mk 2 0 [] l) = numB ((2 : Nat) : Int) ++ (numB ((l.length : Nat) : Int) ++ VD.bytesL l) := rfl
    rw [e, List.length_append]; have := numB_pos ((2 : Nat) : Int); omega
/-- The list under way: the struct in the block g8, its row behind it. -/
structure LoopV (w : World) (g8 B0 : Nat) (r : Value) (q : List VD) (W : World) : Prop where
  below : Below w.heap.size w W
  size : B0 ≤ W.heap.size
  c4 : W.heap[w.heap.size]? = some (.cells #[.int .u8 0, .int .i64 0, .string ⟨#[]⟩, .slice none 0 0] 24 (0, 0))
  c8 : W.heap[g8]? = some (.cells #[.int .u8 2, .int .i64 0, .string ⟨#[]⟩, r] 24 (0, 0))
  vals : ValsO B0 W r q
theorem LoopV.later {w W W' : World} {g8 B0 : Nat} {r : Value} {q : List VD} (h : LoopV w g8 B0 r q W) (hb : Below W.heap.size W W') : LoopV w g8 B0 r q W' :=
  ⟨h.below.trans (hb.mono h.below.size), Nat.le_trans h.size hb.size, by rw [hb.block _ (lt_rowV h.c4)]; exact h.c4, by rw [hb.block _ (lt_rowV h.c8)]; exact h.c8, h.vals.later hb⟩
theorem LoopV.append {w W : World} {g8 B0 : Nat} {r : Value} {q : List VD} (h : LoopV w g8 B0 r q W) (h0 : w.heap.size < g8) (h1 : g8 < B0) {x : VD} {e0 e1 e2 e3 : Value} (hx : x.At (fun k => B0 ≤ k ∧ r.ownBlock ≠ some k) W (.agg #[e0, e1, e2, e3])) {ad : Addr} {c : Nat}
    (d0 : W.cell? (ad.add 0) = some e0) (d1 : W.cell? (ad.add 1) = some e1) (d2 : W.cell? (ad.add 2) = some e2) (d3 : W.cell? (ad.add 3) = some e3) (hl : q.length ≤ 1048576) (ty : TypeId) :
    ∃ r' W', (Builtin.append_ #[22, 22] ty #[r, .slice (some ad) 1 c]).run Tryz.prog W = .ok r' W' ∧ W'.heap[g8]? = some (.cells #[.int .u8 2, .int .i64 0, .string ⟨#[]⟩, r] 24 (0, 0)) ∧ LoopV w g8 B0 r' (q ++ [x]) (W'.setCell ⟨g8, 3, none⟩ r') := by
  obtain ⟨r', W', hrun, hv, hg⟩ := h.vals.append h.size hx d0 d1 d2 d3 hl ty
  have blk : ∀ k, k < B0 → W'.heap[k]? = W.heap[k]? := fun k hk => hg.block k (Nat.lt_of_lt_of_le hk h.size) fun e => by
    have := h.vals.new k (by rw [← e])
    omega
  have k8 : W'.heap[g8]? = some (.cells #[.int .u8 2, .int .i64 0, .string ⟨#[]⟩, r] 24 (0, 0)) := by rw [blk g8 h1]; exact h.c8
  have hb : Below w.heap.size w W' := h.below.trans ⟨hg.os, hg.tape, hg.output, hg.size, fun k hk => blk k (by omega)⟩
  have hsz : (W'.setCell ⟨g8, 3, none⟩ r').heap.size = W'.heap.size := World.size_setCell _ _ _
  refine ⟨r', W', hrun, k8, hb.setCell (p := ⟨g8, 3, none⟩) (by show w.heap.size ≤ g8; omega) r', ?_, ?_, ?_, hv.set (p := ⟨g8, 3, none⟩) h1 r'⟩
  · rw [hsz]; exact Nat.le_trans h.size hg.size
  · rw [Below.heap_setCell _ _ _ _ (by show w.heap.size ≠ g8; omega), blk _ (by omega)]; exact h.c4
  · exact heap_setCell_same _ _ _ _ _ _ k8

set_option maxRecDepth 100000 in
set_option maxHeartbeats 4000000 in
theorem vRead_step (d : Nat) (hd1000 : d ≤ 1000) (HIH : Hid (∀ d', d = d' + 1 → ∀ (a : Option Addr) (n c : Nat) (bs : List UInt8) (w : World), Bytes w (.slice a n c) bs → n ≤ 1048576 → Calls Tryz.prog 87 #[.slice a n c, .int .i64 ((d' : Nat) : Int)] w fun e w' => TookV w bs d' e w' ∧ Below w.heap.size w w')) (a : Option Addr) (n c : Nat) (bs : List UInt8) (w : World) (h : Bytes w (.slice a n c) bs) (hn : n ≤ 1048576) : Calls Tryz.prog 87 #[.slice a n c, .int .i64 ((d : Nat) : Int)] w fun e w' => TookV w bs d e w' ∧ Below w.heap.size w w' := by
  obtain ⟨hbl, hnc⟩ := bytes_len h
  have HH := hide h
  have HBL := hide hbl
  have HN := hide hn
  obtain ⟨w1, hw1⟩ : ∃ w1, w1 = w.alloc (.cells #[.int .u8 0, .int .i64 0, .string ⟨#[]⟩, .slice none 0 0] 24) := ⟨_, rfl⟩
  have HB1 : Hid (Below w.heap.size w w1) := by rw [hw1]; exact (Below.refl _ w).alloc (Nat.le_refl _) _
  have hg4 : w1.heap[w.heap.size]? = some (.cells #[.int .u8 0, .int .i64 0, .string ⟨#[]⟩, .slice none 0 0] 24 (0, 0)) := by rw [hw1]; exact heap_alloc_new w _
  have HG4 := hide hg4
  have HW1 := hide hw1
  have HH1 := hide ((unhide HH).laterW3 (unhide HB1))
  have HS1 : Hid (w1.heap.size = w.heap.size + 1) := by rw [hw1]; show _ = _; simp
  obtain ⟨⟨c40, c41, c42, c43⟩, f40, f41, f42, f43⟩ := cells4 hg4
  clear h hbl hn hw1 hg4
  go_enter Tryz.func87, Tryz.ntmps87
  go_upto_region 1 with fail
  rw [← unhide HW1]
  clear HW1
  go_wp2_with fail
  refine (wRefTakeNum_any (.slice a n c) bs _ (unhide HH1) (by have := unhide HN; have := unhide HBL; omega)).mono ?_
  rintro e w2 ⟨ht, hw⟩
  rw [hw]
  clear hw w2
  rcases ht with ⟨x, k, hr, rfl⟩ | ⟨hNo, rfl⟩
  · have HR := hide hr
    have hkn := hr.le
    rw [unhide HBL] at hkn
    have hk0 := hr.pos
    obtain ⟨hx1, hx2⟩ := hr.inr
    have hkb : (((k : Nat) : Int) == 0) = false := by rw [beq_eq_false_iff_ne]; omega
    have HKN := hide hkn
    clear hr hkn
    by_cases hneg : x < 0
    · go_wp2_with fail
      refine bodyPost_ret (results_ctv rfl _ _ _ _ _ _ _ rfl (set4_heap (unhide HG4) _ _ _ _) Tryz.underlying24 rfl (by kernel_rfl)) rfl ?_
      exact took_no (noVal_kind (unhide HR) (.inl hneg)) (unhide HB1) rfl
    · by_cases hgm : x > 2
      · go_wp2_with fail
        refine bodyPost_ret (results_ctv rfl _ _ _ _ _ _ _ rfl (set4_heap (unhide HG4) _ _ _ _) Tryz.underlying24 rfl (by kernel_rfl)) rfl ?_
        exact took_no (noVal_kind (unhide HR) (.inr hgm)) (unhide HB1) rfl
      · by_cases hd0 : d = 0
        · have hdb : (((d : Nat) : Int) == 0) = true := by rw [hd0]; rfl
          go_wp2_with fail
          refine bodyPost_ret (results_ctv rfl _ _ _ _ _ _ _ rfl (set4_heap (unhide HG4) _ _ _ _) Tryz.underlying24 rfl (by kernel_rfl)) rfl ?_
          exact took_no (by rw [hd0]; exact noVal_zero) (unhide HB1) rfl
        · have hdb : (((d : Nat) : Int) == 0) = false := by rw [beq_eq_false_iff_ne]; omega
          rcases (by omega : x = 1 ∨ x = 0 ∨ x = 2) with rfl | hx
          · obtain ⟨sa, sc, hBs, q, q'⟩ := slice_from (l := k) (unhide HH1) (unhide HKN)
            have HBS := hide hBs
            clear hBs
            obtain ⟨W2, hW2⟩ : ∃ W2, W2 = w1.alloc (.cells #[.int .u8 1, .int .i64 0, .string ⟨#[]⟩, .slice none 0 0] 24) := ⟨_, rfl⟩
            have HW2 := hide hW2
            obtain ⟨hb12, hb2, hg4, hg8⟩ := second (unhide HB1) (unhide HG4) hW2
            have HB2 := hide hb2
            have HG42 := hide hg4
            have HG8 := hide hg8
            have HBS2 := hide ((unhide HBS).laterW3 hb12)
            clear hW2 c40 c41 c42 c43 f40 f41 f42 f43
            obtain ⟨⟨c40, c41, c42, c43⟩, f40, f41, f42, f43⟩ := cells4 hg4
            obtain ⟨⟨c80, c81, c82, c83⟩, f80, f81, f82, f83⟩ := cells4 hg8
            clear hb12 hb2 hg4 hg8
            go_upto_region 6 with fail
            rw [← unhide HW2]
            clear HW2
            go_wp2_with fail
            refine (wRefTakeText_any _ (bs.drop k) 100 _ (unhide HBS2) (by rw [List.length_drop]; have := unhide HN; have := unhide HBL; omega) (by unfold InR; omega)).mono ?_
            rintro e w2 ⟨ht, hw⟩
            rw [hw]
            clear hw w2
            rcases ht with ⟨s, j, hr, rfl⟩ | ⟨hNo, rfl⟩
            · have hsl := hr.le
              have hsm := hr.most
              rw [List.length_drop, unhide HBL] at hsl
              have HVR := hide (vreads_text (d := d) (unhide HR) hr (by omega))
              obtain ⟨m, hm⟩ : ∃ m, m = j + s.length := ⟨_, rfl⟩
              obtain ⟨E, hE⟩ : ∃ E, E = k + m := ⟨_, rfl⟩
              have HSM : Hid (s.length ≤ maxLen) := by show _ ≤ _; unfold maxLen; omega
              rw [← hm]
              have HEQ : Hid (E = k + (j + s.length)) := by show _ = _; omega
              have hEi : ((k : Nat) : Int) + ((m : Nat) : Int) = ((E : Nat) : Int) := by omega
              have hEn : E ≤ 1048576 := by have := unhide HN; have := unhide HKN; omega
              obtain ⟨z, hz⟩ : ∃ z : ByteArray, z = ⟨s.toArray⟩ := ⟨_, rfl⟩
              rw [← hz]
              have HZ := hide hz
              clear hr hsl hsm hE hm hz
              obtain ⟨W3, hW3⟩ : ∃ W3, W3 = W2.setCell ⟨w1.heap.size, 2, none⟩ (.string z) := ⟨_, rfl⟩
              have HW3 := hide hW3
              obtain ⟨hb2, hg4, hg8⟩ := second_set (unhide HB2) (unhide HG42) (unhide HG8) (by have := unhide HS1; omega) (by have := unhide HS1; omega) 2 _ hW3
              have HB3 := hide hb2
              have HG43 := hide hg4
              clear hW3 c40 c41 c42 c43 f40 f41 f42 f43
              obtain ⟨⟨c40, c41, c42, c43⟩, f40, f41, f42, f43⟩ := cells4 hg4
              obtain ⟨⟨d80, d81, d82, d83⟩, g80, g81, g82, g83⟩ := cells4 (v2 := .string z) hg8
              clear hb2 hg4 hg8
              go_upto_region 8 with fail
              rw [← unhide HW3]
              clear HW3 c80 c81 c82 c83 f80 f81 f82 f83
              go_wp2_with fail
              refine bodyPost_ret (results_ctv rfl _ _ _ _ _ _ _ rfl (set4_heap (unhide HG43) _ _ _ _) Tryz.underlying24 rfl (by kernel_rfl)) rfl ?_
              refine ⟨.inl ⟨_, _, _, unhide HVR, by rw [← unhide HEQ]; rfl, ?_⟩, set4_below (unhide HB3) (Nat.le_refl _) _ _ _ _⟩
              rw [unhide HZ, VD.at_iff]
              exact ⟨none, 0, rfl, by simp [VD.k], by simp only [VD.n]; unfold InR; omega, unhide HSM, Nat.le_refl _, Nat.zero_le _, fun j hj => absurd hj (Nat.not_lt_zero j)⟩
            · have HNV : Hid (NoVal bs d) := noVal_text (unhide HR) hNo
              clear hNo
              obtain ⟨W3, hW3⟩ : ∃ W3, W3 = W2.setCell ⟨w1.heap.size, 2, none⟩ (.string ⟨#[]⟩) := ⟨_, rfl⟩
              have HW3 := hide hW3
              obtain ⟨hb2, hg4, hg8⟩ := second_set (unhide HB2) (unhide HG42) (unhide HG8) (by have := unhide HS1; omega) (by have := unhide HS1; omega) 2 _ hW3
              have HB3 := hide hb2
              have HG43 := hide hg4
              clear hW3 hb2 hg8 c40 c41 c42 c43 f40 f41 f42 f43
              obtain ⟨⟨c40, c41, c42, c43⟩, f40, f41, f42, f43⟩ := cells4 hg4
              clear hg4
              go_upto_region 8 with fail
              rw [← unhide HW3]
              clear HW3
              go_wp2_with fail
              refine bodyPost_ret (results_ctv rfl _ _ _ _ _ _ _ rfl (set4_heap (unhide HG43) _ _ _ _) Tryz.underlying24 rfl (by kernel_rfl)) rfl ?_
              exact took_no (unhide HNV) (unhide HB3) rfl
          · rcases hx with rfl | rfl
            · obtain ⟨sa, sc, hBs, q, q'⟩ := slice_from (l := k) (unhide HH1) (unhide HKN)
              have HBS := hide hBs
              clear hBs
              obtain ⟨W2, hW2⟩ : ∃ W2, W2 = w1.alloc (.cells #[.int .u8 0, .int .i64 0, .string ⟨#[]⟩, .slice none 0 0] 24) := ⟨_, rfl⟩
              have HW2 := hide hW2
              obtain ⟨hb12, hb2, hg4, hg8⟩ := second (unhide HB1) (unhide HG4) hW2
              have HB2 := hide hb2
              have HG42 := hide hg4
              have HG8 := hide hg8
              have HBS2 := hide ((unhide HBS).laterW3 hb12)
              have HH2 := hide ((unhide HH1).laterW3 hb12)
              clear hW2 c40 c41 c42 c43 f40 f41 f42 f43
              obtain ⟨⟨c40, c41, c42, c43⟩, f40, f41, f42, f43⟩ := cells4 hg4
              obtain ⟨⟨c80, c81, c82, c83⟩, f80, f81, f82, f83⟩ := cells4 hg8
              clear hb12 hb2 hg4 hg8
              go_upto_region 11 with fail
              rw [← unhide HW2]
              clear HW2
              go_wp2_with fail
              refine (wRefTakeNum_any _ (bs.drop k) _ (unhide HBS2) (by rw [List.length_drop]; have := unhide HN; have := unhide HBL; omega)).mono ?_
              rintro e w2 ⟨ht, hw⟩
              rw [hw]
              clear hw w2
              rcases ht with ⟨y, j, hr, rfl⟩ | ⟨hNo, rfl⟩
              · have hj0 := hr.pos
                have hjl := hr.le
                rw [List.length_drop, unhide HBL] at hjl
                have hjb : (((j : Nat) : Int) == 0) = false := by rw [beq_eq_false_iff_ne]; omega
                obtain ⟨E, hE⟩ : ∃ E, E = k + j := ⟨_, rfl⟩
                have HEQ := hide hE
                have hEi : ((k : Nat) : Int) + ((j : Nat) : Int) = ((E : Nat) : Int) := by omega
                have hEn : E ≤ n := by have := unhide HKN; omega
                have hEb : E ≤ 1048576 := by have := unhide HN; omega
                have HR2 := hide hr
                have HY := hide hr.inr
                clear hr hjl hE
                have HVR := hide (vreads_num (d := d) (unhide HR) (unhide HR2) (by omega))
                obtain ⟨W3, hW3⟩ : ∃ W3, W3 = W2.setCell ⟨w1.heap.size, 1, none⟩ (.int .i64 y) := ⟨_, rfl⟩
                have HW3 := hide hW3
                obtain ⟨hb2, hg4, hg8⟩ := second_set (unhide HB2) (unhide HG42) (unhide HG8) (by have := unhide HS1; omega) (by have := unhide HS1; omega) 1 _ hW3
                have HB3 := hide hb2
                have HG43 := hide hg4
                clear hW3 c40 c41 c42 c43 f40 f41 f42 f43
                obtain ⟨⟨c40, c41, c42, c43⟩, f40, f41, f42, f43⟩ := cells4 hg4
                obtain ⟨⟨d80, d81, d82, d83⟩, g80, g81, g82, g83⟩ := cells4 (v1 := .int .i64 y) hg8
                clear hb2 hg4 hg8
                go_upto_region 17 with fail
                rw [← unhide HW3]
                clear HW3 c80 c81 c82 c83 f80 f81 f82 f83
                go_wp2_with fail
                refine bodyPost_ret (results_ctv rfl _ _ _ _ _ _ _ rfl (set4_heap (unhide HG43) _ _ _ _) Tryz.underlying24 rfl (by kernel_rfl)) rfl ?_
                refine ⟨.inl ⟨_, _, _, unhide HVR, by rw [← unhide HEQ]; rfl, ?_⟩, set4_below (unhide HB3) (Nat.le_refl _) _ _ _ _⟩
                rw [VD.at_iff]
                exact ⟨none, 0, rfl, by simp [VD.k], unhide HY, Nat.zero_le _, Nat.le_refl _, Nat.zero_le _, fun j hj => absurd hj (Nat.not_lt_zero j)⟩
              · have HNV : Hid (NoVal bs d) := noVal_second (unhide HR) (by decide) hNo
                clear hNo
                go_wp2_with fail
                refine bodyPost_ret (results_ctv rfl _ _ _ _ _ _ _ rfl (set4_heap (unhide HG42) _ _ _ _) Tryz.underlying24 rfl (by kernel_rfl)) rfl ?_
                exact took_no (unhide HNV) (unhide HB2) rfl
            · obtain ⟨sa, sc, hBs, q, q'⟩ := slice_from (l := k) (unhide HH1) (unhide HKN)
              have HBS := hide hBs
              clear hBs
              obtain ⟨W2, hW2⟩ : ∃ W2, W2 = w1.alloc (.cells #[.int .u8 2, .int .i64 0, .string ⟨#[]⟩, .slice none 0 0] 24) := ⟨_, rfl⟩
              have HW2 := hide hW2
              obtain ⟨hb12, hb2, hg4, hg8⟩ := second (unhide HB1) (unhide HG4) hW2
              have HB2 := hide hb2
              have HG42 := hide hg4
              have HG8 := hide hg8
              have HBS2 := hide ((unhide HBS).laterW3 hb12)
              have HH2 := hide ((unhide HH1).laterW3 hb12)
              clear hW2 c40 c41 c42 c43 f40 f41 f42 f43
              obtain ⟨⟨c40, c41, c42, c43⟩, f40, f41, f42, f43⟩ := cells4 hg4
              obtain ⟨⟨c80, c81, c82, c83⟩, f80, f81, f82, f83⟩ := cells4 hg8
              clear hb12 hb2 hg4 hg8
              go_upto_region 11 with fail
              rw [← unhide HW2]
              clear HW2
              go_wp2_with fail
              refine (wRefTakeNum_any _ (bs.drop k) _ (unhide HBS2) (by rw [List.length_drop]; have := unhide HN; have := unhide HBL; omega)).mono ?_
              rintro e w2 ⟨ht, hw⟩
              rw [hw]
              clear hw w2
              rcases ht with ⟨y, j, hr, rfl⟩ | ⟨hNo, rfl⟩
              · have hj0 := hr.pos
                have hjl := hr.le
                rw [List.length_drop, unhide HBL] at hjl
                have hjb : (((j : Nat) : Int) == 0) = false := by rw [beq_eq_false_iff_ne]; omega
                obtain ⟨E, hE⟩ : ∃ E, E = k + j := ⟨_, rfl⟩
                have HEQ := hide hE
                have hEi : ((k : Nat) : Int) + ((j : Nat) : Int) = ((E : Nat) : Int) := by omega
                have hEn : E ≤ n := by have := unhide HKN; omega
                have hEb : E ≤ 1048576 := by have := unhide HN; omega
                have HR2 := hide hr
                have HY := hide hr.inr
                clear hr hjl hE
                by_cases hy0 : y < 0
                · go_wp2_with fail
                  refine bodyPost_ret (results_ctv rfl _ _ _ _ _ _ _ rfl (set4_heap (unhide HG42) _ _ _ _) Tryz.underlying24 rfl (by kernel_rfl)) rfl ?_
                  exact took_no (noVal_count (unhide HR) (unhide HR2) (.inl hy0)) (unhide HB2) rfl
                · by_cases hy40 : y > 40
                  · go_wp2_with fail
                    refine bodyPost_ret (results_ctv rfl _ _ _ _ _ _ _ rfl (set4_heap (unhide HG42) _ _ _ _) Tryz.underlying24 rfl (by kernel_rfl)) rfl ?_
                    exact took_no (noVal_count (unhide HR) (unhide HR2) (.inr hy40)) (unhide HB2) rfl
                  · obtain ⟨N, hN⟩ : ∃ N : Nat, y = ((N : Nat) : Int) := ⟨y.toNat, by omega⟩
                    subst hN
                    have hN40 : N ≤ 40 := by omega
                    have HL0 : Hid (LoopV w w1.heap.size (w1.heap.size + 1) (.slice none 0 0) [] W2) := ⟨unhide HB2, by have := lt_rowV (unhide HG8); omega, unhide HG42, unhide HG8, ValsO.nil _ _⟩
                    have HNL : Hid (N ≤ 40) := hN40
                    obtain ⟨d', hd'⟩ : ∃ d', d = d' + 1 := ⟨d - 1, by omega⟩
                    have HD := hide hd'
                    have hdi : ((d : Nat) : Int) - 1 = ((d' : Nat) : Int) := by omega
                    have hdn : d' ≤ 1000 := by omega
                    clear hd' hd0
                    go_wp2_with fail
                    go_loopw [7, 14] (fun at' i W => ∃ (q : List VD) (A : Nat) (r : Value), q.length ≤ N ∧ A ≤ n ∧ at' = .int .i64 ((A : Nat) : Int) ∧ i = .int .i64 ((q.length : Nat) : Int) ∧ Listed bs d' E q A ∧ VD.partsL q + 1 ≤ 200 ∧ LoopV w w1.heap.size (w1.heap.size + 1) r q W) (fun _ i _ => N - (intOf i).toNat)
                    case atStart => exact ⟨[], E, _, Nat.zero_le _, hEn, rfl, rfl, Listed.nil _ _ _, by simp [VD.partsL], unhide HL0⟩
                    case round =>
                      obtain ⟨q, A, r, hqN, hAn, rfl, rfl, hLi, hPa, hLo⟩ := hrel
                      have HLI := hide hLi
                      have HPA := hide hPa
                      have HAN := hide hAn
                      have HHR := hide ((unhide HH).laterW3 hLo.below)
                      obtain ⟨Q, hQ⟩ : ∃ Q, Q = q.length := ⟨_, rfl⟩
                      have HQ := hide hQ
                      obtain ⟨ra, rc, hrr, hrc⟩ := hLo.vals.form
                      subst hrr
                      rw [← hQ] at hqN hrc hLo ⊢
                      clear hQ hLi hPa c40 c41 c42 c43 f40 f41 f42 f43 c80 c81 c82 c83 f80 f81 f82 f83
                      have HLO := hide hLo
                      by_cases hlt : Q < N
                      · have hlt' : ((Q : Nat) : Int) < ((N : Nat) : Int) := by omega
                        have hNb : N ≤ 40 := unhide HNL
                        have hAb : A ≤ 1048576 := by have := unhide HN; omega
                        obtain ⟨xa, xc, hBx, p, p'⟩ := slice_from (l := A) (unhide HHR) (unhide HAN)
                        have HBX := hide hBx
                        clear hBx hLo
                        go_wp2_with fail
                        refine (unhide HIH d' (unhide HD) _ _ _ (bs.drop A) wr (unhide HBX) (by have := unhide HN; omega)).mono ?_
                        rintro e W3 ⟨ht, hb3⟩
                        have HLO3 := hide ((unhide HLO).later hb3)
                        rcases ht with ⟨x, m, u, hv, rfl, hAt⟩ | ⟨hNo, rfl⟩
                        · have HAT := hide hAt
                          have HV := hide hv
                          have hm0 := hv.pos
                          have hml := hv.le
                          rw [List.length_drop, unhide HBL] at hml
                          have hmb : (((m : Nat) : Int) == 0) = false := by rw [beq_eq_false_iff_ne]; omega
                          obtain ⟨A2, hA2⟩ : ∃ A2, A2 = A + m := ⟨_, rfl⟩
                          have HA2 := hide hA2
                          have hAm : ((A : Nat) : Int) + ((m : Nat) : Int) = ((A2 : Nat) : Int) := by omega
                          have hA2n : A2 ≤ n := by have := unhide HAN; omega
                          have hA2b : A2 ≤ 1048576 := by have := unhide HN; omega
                          have HA2N := hide hA2n
                          rw [VD.at_iff] at hAt
                          obtain ⟨ea, ec, hu, _, _, _, _, _, _⟩ := hAt
                          obtain ⟨xk, hxk⟩ : ∃ xk, xk = x.k := ⟨_, rfl⟩
                          obtain ⟨xn, hxn⟩ : ∃ xn, xn = x.n := ⟨_, rfl⟩
                          obtain ⟨z, hz⟩ : ∃ z : ByteArray, z = ⟨x.s.toArray⟩ := ⟨_, rfl⟩
                          obtain ⟨xl, hxl⟩ : ∃ xl, xl = x.l.length := ⟨_, rfl⟩
                          rw [← hxk, ← hxn, ← hz, ← hxl] at hu
                          subst hu
                          obtain ⟨W4, hW4⟩ : ∃ W4, W4 = W3.alloc (.cells #[.int .u8 ((xk : Nat) : Int), .int .i64 xn, .string z, .slice ea xl ec] 24) := ⟨_, rfl⟩
                          obtain ⟨W5, hW5⟩ : ∃ W5, W5 = W4.alloc (.cells #[.int .u8 ((xk : Nat) : Int), .int .i64 xn, .string z, .slice ea xl ec] 24) := ⟨_, rfl⟩
                          have hb34 : Below W3.heap.size W3 W4 := by rw [hW4]; exact (Below.refl _ _).alloc (Nat.le_refl _) _
                          have hb45 : Below W4.heap.size W4 W5 := by rw [hW5]; exact (Below.refl _ _).alloc (Nat.le_refl _) _
                          have HLO4 := hide ((unhide HLO3).later hb34)
                          have HLO5 := hide ((unhide HLO4).later hb45)
                          have hx5 : x.At (fun k => w1.heap.size + 1 ≤ k ∧ (Value.slice ra Q rc).ownBlock ≠ some k) W5 (.agg #[.int .u8 ((xk : Nat) : Int), .int .i64 xn, .string z, .slice ea xl ec]) := by
                            refine (((unhide HAT).wider fun k hk => ⟨Nat.le_trans (unhide HLO).size hk, fun e => ?_⟩).later hb34).later hb45
                            obtain ⟨xs, h1, _⟩ := (unhide HLO).vals.row
                            have := (h1.lt k e).2
                            omega
                          have hr4 : W4.heap[W3.heap.size]? = some (.cells #[.int .u8 ((xk : Nat) : Int), .int .i64 xn, .string z, .slice ea xl ec] 24 (0, 0)) := by rw [hW4]; exact heap_alloc_new W3 _
                          have hr5 : W5.heap[W4.heap.size]? = some (.cells #[.int .u8 ((xk : Nat) : Int), .int .i64 xn, .string z, .slice ea xl ec] 24 (0, 0)) := by rw [hW5]; exact heap_alloc_new W4 _
                          obtain ⟨⟨i0, i1, i2, i3⟩, _⟩ := cells4 hr5
                          obtain ⟨r', W6, hrun, k8, hLo6⟩ := (unhide HLO5).append (by have := unhide HS1; omega) (Nat.lt_succ_self _) hx5 (ad := ⟨W4.heap.size, 0, none⟩) (c := 1) (by rw [Addr.add_mid]; exact i0) (by rw [Addr.add_mid]; exact i1) (by rw [Addr.add_mid]; exact i2) (by rw [Addr.add_mid]; exact i3) (by have := unhide HQ; omega) 22
                          obtain ⟨ra', rc', hr', hrc'⟩ := hLo6.vals.form
                          have hlen : (q ++ [x]).length = Q + 1 := by rw [List.length_append, List.length_singleton, ← unhide HQ]
                          rw [hlen] at hr' hrc'
                          subst hr'
                          rw [hW5] at hrun
                          have HRUN := hide hrun
                          obtain ⟨W7, hW7⟩ : ∃ W7, W7 = W6.setCell ⟨w1.heap.size, 3, none⟩ (.slice ra' (Q + 1) rc') := ⟨_, rfl⟩
                          rw [← hW7] at hLo6
                          have HLO7 := hide hLo6
                          have HW4 := hide hW4
                          have HW7 := hide hW7
                          obtain ⟨⟨c80, c81, c82, c83⟩, f80, f81, f82, f83⟩ := cells4 (unhide HLO4).c8
                          obtain ⟨⟨i40, i41, i42, i43⟩, j40, j41, j42, j43⟩ := cells4 hr4
                          obtain ⟨⟨k80, k81, k82, k83⟩, l80, l81, l82, l83⟩ := cells4 k8
                          obtain ⟨⟨m80, m81, m82, m83⟩, n80, n81, n82, n83⟩ := cells4 hLo6.c8
                          clear hv hml hA2 hxk hxn hz hxl hW4 hW5 hb34 hb45 hx5 hr4 hr5 i0 i1 i2 i3 hrun k8 hLo6 hW7 hlen hb3
                          go_upto_region 24 with fail
                          rw [← unhide HW4]
                          clear HW4
                          go_wp2_with (at_builtin; go_loud (refine Lib.wpList_append_run _ rfl _ _ 22 22 rfl _ _ rfl rfl _ _ (unhide HRUN) ?_))
                          go_upto_region 27 with fail
                          rw [← unhide HW7]
                          clear HW7 HRUN k80 k81 k82 k83 l80 l81 l82 l83 c80 c81 c82 c83 f80 f81 f82 f83 i40 i41 i42 i43 j40 j41 j42 j43
                          obtain ⟨P, hP⟩ : ∃ P, P = (VD.mk 2 0 [] (q ++ [x])).parts := ⟨_, rfl⟩
                          have hP2 : P = VD.partsL (q ++ [x]) + 1 := by rw [hP, VD.parts_mk]; rfl
                          have HLS := hide ((unhide HLI).snoc (unhide HV))
                          have HPP := hide hP2
                          have hPb : P ≤ 1000000 := by
                            have h1 := unhide HPA
                            have h2 := (unhide HV).parts
                            rw [hP2, VD.partsL_append]
                            simp only [VD.partsL]
                            omega
                          have HPE := hide hP
                          clear hP hP2
                          refine (vRefParts_any (.mk 2 0 [] (q ++ [x])) (fun b => w1.heap.size + 1 ≤ b) _ W7 ((unhide HLO7).vals.at (k := 2) (n := 0) (s := []) (by omega) (by unfold InR; omega) (Nat.zero_le _)) (by rw [← unhide HPE]; exact hPb)).mono ?_
                          rintro e W8 ⟨rfl, hb8⟩
                          rw [← unhide HPE]
                          have HLO8 := hide ((unhide HLO7).later hb8)
                          clear hb8 m80 m81 m82 m83 n80 n81 n82 n83
                          obtain ⟨⟨c40, c41, c42, c43⟩, f40, f41, f42, f43⟩ := cells4 (unhide HLO8).c4
                          by_cases hP200 : P > 200
                          · have HNV : Hid (NoVal bs d) := by
                              rw [unhide HD]
                              have h1 := unhide HLS
                              rw [unhide HEQ] at h1
                              exact noVal_parts (unhide HR) (unhide HR2) h1 (by rw [List.length_append, List.length_singleton, ← unhide HQ]; omega) (by have := unhide HPP; omega)
                            go_wp2_with fail
                            refine bodyPost_ret (results_ctv rfl _ _ _ _ _ _ _ rfl (set4_heap (unhide HLO8).c4 _ _ _ _) Tryz.underlying24 rfl (by kernel_rfl)) rfl ?_
                            exact took_no (unhide HNV) (unhide HLO8).below rfl
                          · go_wp2_with fail
                            refine ⟨⟨q ++ [x], A2, _, by rw [List.length_append, List.length_singleton, ← unhide HQ]; omega, unhide HA2N, rfl, ?_, by rw [unhide HA2]; exact unhide HLS, by have := unhide HPP; omega, unhide HLO8⟩, by simp [intOf]; omega⟩
                            rw [List.length_append, List.length_singleton, ← unhide HQ]
                            go_num
                        · rw [zeroV]
                          have HNV : Hid (NoVal bs d) := by
                            rw [unhide HD]
                            have h1 := unhide HLI
                            rw [unhide HEQ] at h1
                            exact noVal_next (unhide HR) (unhide HR2) h1 (by rw [← unhide HQ]; exact hlt) hNo
                          obtain ⟨W4, hW4⟩ : ∃ W4, W4 = W3.alloc (.cells #[.int .u8 0, .int .i64 0, .string ⟨#[]⟩, .slice none 0 0] 24) := ⟨_, rfl⟩
                          have HW4 := hide hW4
                          have HLO4 : Hid (LoopV w w1.heap.size (w1.heap.size + 1) (.slice ra Q rc) q W4) := (unhide HLO3).later (by rw [hW4]; exact (Below.refl _ _).alloc (Nat.le_refl _) _)
                          obtain ⟨⟨c40, c41, c42, c43⟩, f40, f41, f42, f43⟩ := cells4 (unhide HLO4).c4
                          clear hNo hW4 hb3
                          go_upto_region 24 with fail
                          rw [← unhide HW4]
                          clear HW4
                          go_wp2_with fail
                          refine bodyPost_ret (results_ctv rfl _ _ _ _ _ _ _ rfl (set4_heap (unhide HLO4).c4 _ _ _ _) Tryz.underlying24 rfl (by kernel_rfl)) rfl ?_
                          exact took_no (unhide HNV) (unhide HLO4).below rfl
                      · have hQN : Q = N := by omega
                        have hlt' : ¬ ((Q : Nat) : Int) < ((N : Nat) : Int) := by omega
                        obtain ⟨⟨c40, c41, c42, c43⟩, f40, f41, f42, f43⟩ := cells4 hLo.c4
                        obtain ⟨⟨c80, c81, c82, c83⟩, f80, f81, f82, f83⟩ := cells4 hLo.c8
                        have HVR : Hid (VReads bs d (.mk 2 0 [] q) A) := by
                          rw [unhide HD]
                          have h1 := unhide HLI
                          rw [unhide HEQ] at h1
                          exact vreads_list (unhide HR) (by rw [← unhide HQ, hQN]; exact unhide HR2) h1 (by have := unhide HQ; omega) (unhide HPA)
                        clear hLo
                        go_wp2_with fail
                        refine bodyPost_ret (results_ctv rfl _ _ _ _ _ _ _ rfl (set4_heap (unhide HLO).c4 _ _ _ _) Tryz.underlying24 rfl (by kernel_rfl)) rfl ?_
                        refine ⟨.inl ⟨_, _, _, unhide HVR, rfl, ?_⟩, set4_below (unhide HLO).below (Nat.le_refl _) _ _ _ _⟩
                        have hv : ValsO (w1.heap.size + 1) wr (.slice ra N rc) q := by rw [← hQN]; exact (unhide HLO).vals
                        have hlt4 : w.heap.size < w1.heap.size + 1 := by have := unhide HS1; omega
                        have ha := ((((hv.set (p := ⟨w.heap.size, 0, none⟩) hlt4 (.int .u8 2)).set (p := ⟨w.heap.size, 1, none⟩) hlt4 (.int .i64 0)).set (p := ⟨w.heap.size, 2, none⟩) hlt4 (.string ⟨#[]⟩)).set (p := ⟨w.heap.size, 3, none⟩) hlt4 (.slice ra N rc)).at (k := 2) (n := 0) (s := []) (by omega) (by unfold InR; omega) (Nat.zero_le _)
                        exact ha.wider (B' := fun k => w.heap.size ≤ k) (fun k hk => by have := unhide HS1; omega)
              · have HNV : Hid (NoVal bs d) := noVal_second (unhide HR) (by decide) hNo
                clear hNo
                go_wp2_with fail
                refine bodyPost_ret (results_ctv rfl _ _ _ _ _ _ _ rfl (set4_heap (unhide HG42) _ _ _ _) Tryz.underlying24 rfl (by kernel_rfl)) rfl ?_
                exact took_no (unhide HNV) (unhide HB2) rfl
  · have HNV : Hid (NoVal bs d) := noVal_num hNo
    clear hNo
    go_wp2_with fail
    refine bodyPost_ret (results_ctv rfl _ _ _ _ _ _ _ rfl (set4_heap (unhide HG4) _ _ _ _) Tryz.underlying24 rfl (by kernel_rfl)) rfl ?_
    exact took_no (unhide HNV) (unhide HB1) rfl

/-- read answers the value that bytes begin with, or that there is none. -/
theorem vRead_any (d : Nat) : d ≤ 1000 → ∀ (a : Option Addr) (n c : Nat) (bs : List UInt8) (w : World), Bytes w (.slice a n c) bs → n ≤ 1048576 → Calls Tryz.prog 87 #[.slice a n c, .int .i64 ((d : Nat) : Int)] w fun e w' => TookV w bs d e w' ∧ Below w.heap.size w w' := by
  induction d with
  | zero => exact fun h a n c bs w hb hn => vRead_step 0 h (fun d' e => by omega) a n c bs w hb hn
  | succ d ih => exact fun h a n c bs w hb hn => vRead_step (d + 1) h (fun d' e => by obtain rfl : d = d' := by omega
                                                                                      exact ih (by omega)) a n c bs w hb hn
end Go.Proofs.YtdlbpbglidhlfaaGreatDoor

namespace Go.Proofs.YtdlbpbglidhlfaaGreatDoor
open Go.RowKit

/-- What a reader leaves by. -/
def left30 : List PanicEntry := [{ v := .iface 31 (.int .i64 30), recovered := false }]
theorem need_any (so : Bool) (w : World) : Calls Tryz.prog 107 #[.bool so] w fun e w' => e = (if so then .returned (.tuple #[]) else .panicked left30) ∧ w' = w := by
  cases so with
  | true =>
    go_enter Tryz.func107, Tryz.ntmps107
    go_wp2
    go_end0
    exact ⟨rfl, rfl⟩
  | false =>
    go_enter Tryz.func107, Tryz.ntmps107
    go_wp2
    exact ⟨rfl, rfl, rfl⟩

/-- But for the block g, and new ones, the world is as it was. -/
structure But (g : Nat) (W W' : World) : Prop where
  os : W'.os = W.os
  tape : W'.tape = W.tape
  output : W'.output = W.output
  size : W.heap.size ≤ W'.heap.size
  block : ∀ k, k < W.heap.size → k ≠ g → W'.heap[k]? = W.heap[k]?
theorem But.of {g : Nat} {W W' : World} (h : Below W.heap.size W W') : But g W W' := ⟨h.os, h.tape, h.output, h.size, fun k hk _ => h.block k hk⟩
theorem But.trans {g : Nat} {W W' W'' : World} (h : But g W W') (h' : But g W' W'') : But g W W'' :=
  ⟨h'.os.trans h.os, h'.tape.trans h.tape, h'.output.trans h.output, Nat.le_trans h.size h'.size, fun k hk hn => (h'.block k (Nat.lt_of_lt_of_le hk h.size) hn).trans (h.block k hk hn)⟩
theorem But.set {g : Nat} {W W' : World} (h : But g W W') (o : Nat) (v : Value) : But g W (W'.setCell ⟨g, o, none⟩ v) := by
  have b := (Below.refl 0 W').setCell (p := ⟨g, o, none⟩) (Nat.zero_le _) v
  exact ⟨b.os.trans h.os, b.tape.trans h.tape, b.output.trans h.output, by rw [World.size_setCell]; exact h.size, fun k hk hn => (Below.heap_setCell _ _ _ _ hn).trans (h.block k hk hn)⟩
theorem But.below {g : Nat} {w0 W W' : World} (h : But g W W') (hb : Below w0.heap.size w0 W) (hg : w0.heap.size ≤ g) : Below w0.heap.size w0 W' :=
  ⟨h.os.trans hb.os, h.tape.trans hb.tape, h.output.trans hb.output, Nat.le_trans hb.size h.size, fun k hk => (h.block k (Nat.lt_of_lt_of_le hk hb.size) (by omega)).trans (hb.block k hk)⟩

/-- A reader in the block g: what is left, in the world w0, and how many parts there were. -/
structure Rdr (w0 : World) (g : Nat) (a : Option Addr) (n c p : Nat) (bs : List UInt8) (W : World) : Prop where
  below : Below w0.heap.size w0 W
  new : w0.heap.size ≤ g
  blk : W.heap[g]? = some (.cells #[.slice a n c, .int .i64 ((p : Nat) : Int)] 109 (0, 0))
  bytes : Bytes w0 (.slice a n c) bs
  len : n ≤ 1048576
theorem Rdr.later {w0 W W' : World} {g n c p : Nat} {a : Option Addr} {bs : List UInt8} (h : Rdr w0 g a n c p bs W) (hb : Below W.heap.size W W') : Rdr w0 g a n c p bs W' :=
  ⟨h.below.trans (hb.mono h.below.size), h.new, (hb.block _ (lt_rowV h.blk)).trans h.blk, h.bytes, h.len⟩
theorem Rdr.at {w0 W : World} {g n c p : Nat} {a : Option Addr} {bs : List UInt8} (h : Rdr w0 g a n c p bs W) : Bytes W (.slice a n c) bs := h.bytes.kept fun k _ hk => h.below.block k hk
theorem Rdr.cells {w0 W : World} {g n c p : Nat} {a : Option Addr} {bs : List UInt8} (h : Rdr w0 g a n c p bs W) : W.cell? ⟨g, 0, none⟩ = some (.slice a n c) ∧ W.cell? ⟨g, 1, none⟩ = some (.int .i64 ((p : Nat) : Int)) ∧ W.frozen? ⟨g, 0, none⟩ = false ∧ W.frozen? ⟨g, 1, none⟩ = false :=
  ⟨cell_of_row _ _ 0 _ _ _ h.blk, cell_of_row _ _ 1 _ _ _ h.blk, frozen_of_row _ _ _ _ _ h.blk, frozen_of_row _ _ _ _ _ h.blk⟩
/-- What is left behind k bytes. -/
theorem Rdr.cut {w0 W : World} {g n c p k : Nat} {a : Option Addr} {bs : List UInt8} (h : Rdr w0 g a n c p bs W) (hk : k ≤ n) : Rdr w0 g (wcutA a n k) (n - k) (n - k) p (bs.drop k) (W.setCell ⟨g, 0, none⟩ (.slice (wcutA a n k) (n - k) (n - k))) :=
  ⟨h.below.setCell (p := ⟨g, 0, none⟩) h.new _, h.new, heap_setCell_same _ _ _ _ _ _ h.blk, h.bytes.cut hk, by have := h.len; omega⟩

theorem Rdr.cut2 {w0 W : World} {g n c p k m : Nat} {a : Option Addr} {bs : List UInt8} (h : Rdr w0 g a n c p bs W) (hk : k + m ≤ n) : Rdr w0 g (wcutA (wcutA a n k) (n - k) m) (n - k - m) (n - k - m) p (bs.drop (k + m)) (W.setCell ⟨g, 0, none⟩ (.slice (wcutA (wcutA a n k) (n - k) m) (n - k - m) (n - k - m))) :=
  ⟨h.below.setCell (p := ⟨g, 0, none⟩) h.new _, h.new, heap_setCell_same _ _ _ _ _ _ h.blk, by rw [← List.drop_drop]; exact (h.bytes.cut (by omega)).cut (by omega), by have := h.len; omega⟩

set_option maxRecDepth 100000 in
set_option maxHeartbeats 1000000 in
theorem rNumber_any (w0 : World) (g n c p : Nat) (a : Option Addr) (bs : List UInt8) (w : World) (h : Rdr w0 g a n c p bs w) : Calls Tryz.prog 108 #[.pointer (some ⟨g, 0, none⟩)] w fun e W => But g w W ∧
    ((∃ (x : Int) (k : Nat), Reads bs x k ∧ e = .returned (.int .i64 x) ∧ Rdr w0 g (wcutA a n k) (n - k) (n - k) p (bs.drop k) W) ∨ (NoNum bs ∧ e = .panicked left30)) := by
  obtain ⟨c0, c1, f0, f1⟩ := h.cells
  have HR := hide h
  clear h
  go_enter Tryz.func108, Tryz.ntmps108
  go_wp2_with fail
  refine (takeNum_any a n c bs _ (unhide HR).at (unhide HR).len).mono ?_
  rintro e w1 ⟨ht, hb1⟩
  have HR1 := hide ((unhide HR).later hb1)
  have HU1 : Hid (But g w w1) := But.of hb1
  clear hb1 c0 c1 f0 f1
  obtain ⟨c0, c1, f0, f1⟩ := (unhide HR1).cells
  rcases ht with ⟨x, k, hr, rfl⟩ | ⟨hNo, rfl⟩
  · have hkn : k ≤ n := by have h1 := hr.le; obtain ⟨hbl, -⟩ := bytes_len (unhide HR).bytes; omega
    have HRD := hide hr
    have HR2 := hide ((unhide HR1).cut hkn)
    have HU2 := hide ((unhide HU1).set 0 (.slice (wcutA a n k) (n - k) (n - k)))
    clear hr hkn
    go_wp2_with fail
    refine (need_any true _).mono ?_
    rintro e w2 ⟨rfl, hw⟩
    rw [hw]
    clear hw w2
    go_wp2_with fail
    go_ret
    exact ⟨unhide HU2, .inl ⟨x, k, unhide HRD, rfl, unhide HR2⟩⟩
  · have HNO := hide hNo
    clear hNo
    go_wp2_with fail
    refine (need_any false _).mono ?_
    rintro e w2 ⟨rfl, hw⟩
    rw [hw]
    clear hw w2
    exact ⟨rfl, unhide HU1, .inr ⟨unhide HNO, rfl⟩⟩

set_option maxRecDepth 100000 in
set_option maxHeartbeats 1000000 in
theorem rText_any (w0 : World) (g n c p : Nat) (a : Option Addr) (bs : List UInt8) (w : World) (h : Rdr w0 g a n c p bs w) : Calls Tryz.prog 109 #[.pointer (some ⟨g, 0, none⟩)] w fun e W => But g w W ∧
    ((∃ (s : List UInt8) (k : Nat) (a' : Option Addr) (n' : Nat), ReadsT bs 100 s k ∧ n' = n - k - s.length ∧ e = .returned (.string ⟨s.toArray⟩) ∧ Rdr w0 g a' n' n' p (bs.drop (k + s.length)) W) ∨ (NoText bs 100 ∧ e = .panicked left30)) := by
  obtain ⟨c0, c1, f0, f1⟩ := h.cells
  have HR := hide h
  clear h
  go_enter Tryz.func109, Tryz.ntmps109
  go_wp2_with fail
  refine (takeText_any a n c bs 100 _ (unhide HR).at (unhide HR).len (by unfold InR; omega)).mono ?_
  rintro e w1 ⟨ht, hb1⟩
  have HR1 := hide ((unhide HR).later hb1)
  have HU1 : Hid (But g w w1) := But.of hb1
  clear hb1 c0 c1 f0 f1
  obtain ⟨c0, c1, f0, f1⟩ := (unhide HR1).cells
  rcases ht with ⟨s, k, hr, rfl⟩ | ⟨hNo, rfl⟩
  · have hkn : k + s.length ≤ n := by have h1 := hr.le; obtain ⟨hbl, -⟩ := bytes_len (unhide HR).bytes; omega
    have HRD := hide hr
    obtain ⟨a', ha'⟩ : ∃ a', a' = wcutA (wcutA a n k) (n - k) s.length := ⟨_, rfl⟩
    obtain ⟨n', hn'⟩ : ∃ n', n' = n - k - s.length := ⟨_, rfl⟩
    have HR2 := hide ((unhide HR1).cut2 hkn)
    have HU2 := hide ((unhide HU1).set 0 (.slice (wcutA (wcutA a n k) (n - k) s.length) (n - k - s.length) (n - k - s.length)))
    rw [← ha', ← hn'] at HR2 HU2 ⊢
    have HNE := hide hn'
    clear hr hkn ha' hn'
    go_wp2_with fail
    refine (need_any true _).mono ?_
    rintro e w2 ⟨rfl, hw⟩
    rw [hw]
    clear hw w2
    go_wp2_with fail
    go_ret
    exact ⟨unhide HU2, .inl ⟨s, k, _, _, unhide HRD, unhide HNE, rfl, unhide HR2⟩⟩
  · have HNO := hide hNo
    clear hNo
    go_wp2_with fail
    refine (need_any false _).mono ?_
    rintro e w2 ⟨rfl, hw⟩
    rw [hw]
    clear hw w2
    exact ⟨rfl, unhide HU1, .inr ⟨unhide HNO, rfl⟩⟩
end Go.Proofs.YtdlbpbglidhlfaaGreatDoor

namespace Go.Proofs.YtdlbpbglidhlfaaGreatDoor

/-- No value of at most q parts, no deeper than d. -/
def NoV (b : List UInt8) (d q : Nat) : Prop := ∀ v j, VReads b d v j → q < v.parts
theorem NoVal.noV {b : List UInt8} {d q : Nat} (h : NoVal b d) : NoV b d q := fun v j hr => absurd hr (h v j)
theorem NoV.noVal {b : List UInt8} {d : Nat} (h : NoV b d 200) : NoVal b d := fun v j hr => by have := h v j hr; have := hr.parts; omega
theorem noV_none {b : List UInt8} {d q : Nat} (h : q = 0) : NoV b d q := fun v j _ => by have := v.parts_pos; omega
/-- No list of at most q parts. -/
def NoL (b : List UInt8) (d q : Nat) : Prop := ∀ (l : List VD) (i j : Nat), Reads b ((l.length : Nat) : Int) i → l.length ≤ 40 → Listed b d i l j → VD.partsL l ≤ q → False
theorem noL_num {b : List UInt8} {d q : Nat} (h : NoNum b) : NoL b d q := fun _ _ _ hr _ _ _ => h _ _ hr
theorem noL_count {b : List UInt8} {d q i : Nat} {n : Int} (h : Reads b n i) (hn : n < 0 ∨ 40 < n) : NoL b d q := fun l _ _ hr hl _ _ => by
  obtain ⟨e, _⟩ := h.same hr
  omega
theorem noL_next {b : List UInt8} {d Q i a1 n : Nat} {q : List VD} (h : Reads b ((n : Nat) : Int) i) (hL : Listed b d i q a1) (hq : q.length < n) (hQ : Q ≤ 200) (hN : NoV (b.drop a1) d (Q - VD.partsL q)) : NoL b d Q := fun l i' j hr hl hL' hp => by
  obtain ⟨e, rfl⟩ := h.same hr
  have hln : n = l.length := by omega
  obtain ⟨p, rfl, hp2⟩ := hL.begin (r := b.drop j) hL'.kinds (by omega) hL'.eq
  match p, hp2, hln with
  | [], _, hln => simp at hln; omega
  | x :: p, hp2, _ =>
    simp only [VD.bytesL, List.append_assoc] at hp2
    have hxm : x ∈ q ++ x :: p := by simp
    rw [VD.partsL_append] at hp
    simp only [VD.partsL] at hp
    have := hN _ _ (VReads.of (hL'.kinds x hxm) (hL'.deep x hxm) (by omega) (hL'.fits x hxm) hp2)
    omega
/-- What a list's bytes are, behind its kind. -/
theorem VReads.list2 {b : List UInt8} {d k j : Nat} {v : VD} (hr : VReads b (d + 1) v j) (h : Reads b 2 k) : ∃ l i j', v = .mk 2 0 [] l ∧ Reads (b.drop k) ((l.length : Nat) : Int) i ∧ l.length ≤ 40 ∧ Listed (b.drop k) d i l j' := by
  obtain ⟨h1, h2⟩ := hr.behind h
  simp only [List.append_nil] at h2
  have hd := hr.deep
  have hf := hr.fits
  rcases VD.kinds_cases hr.kinds with ⟨n', rfl⟩ | ⟨s, rfl, hs⟩ | ⟨l, rfl, hl, hk⟩
  · simp [VD.k] at h1
  · simp [VD.k] at h1
  · have e : (VD.bytes (.mk 2 0 [] l)).drop k = numB ((l.length : Nat) : Int) ++ VD.bytesL l := by
      have e : VD.bytes (.mk 2 0 [] l) = numB ((2 : Nat) : Int) ++ (numB ((l.length : Nat) : Int) ++ VD.bytesL l) := rfl
      rw [e, h.len]; exact drop_numB
    rw [e, List.append_assoc] at h2
    have h3 := Reads.of (r := VD.bytesL l ++ b.drop j) (n := ((l.length : Nat) : Int)) (by unfold InR; omega) h2
    rw [VD.deep_mk] at hd
    refine ⟨l, _, _, rfl, h3, hl, ⟨hk, fun x hx => ?_, fun x hx => hf.mem hx, ?_, rfl⟩⟩
    · have := VD.deep_mem hx
      simp only [VD.l] at hd
      omega
    · rw [← List.drop_drop, h2, drop_numB, List.drop_left' rfl]
theorem noV_list {b : List UInt8} {d k q : Nat} (h : Reads b 2 k) (hN : NoL (b.drop k) d q) : NoV b (d + 1) (q + 1) := fun v j hr => by
  obtain ⟨l, i, j', rfl, h1, h2, h3⟩ := hr.list2 h
  rw [VD.parts_mk]
  simp only [VD.l]
  rcases Nat.lt_or_ge q (VD.partsL l) with h4 | h4
  · omega
  · exact absurd h4 fun h4 => hN l i j' h1 h2 h3 h4
theorem Listed.shift {b : List UInt8} {d k i j : Nat} {l : List VD} (h : Listed (b.drop k) d i l j) : Listed b d (k + i) l (k + j) :=
  ⟨h.kinds, h.deep, h.fits, by rw [← List.drop_drop, ← List.drop_drop]; exact h.eq, by have := h.len; omega⟩
theorem vreads_list2 {b : List UInt8} {d k i j : Nat} {l : List VD} (h : Reads b 2 k) (ht : Reads (b.drop k) ((l.length : Nat) : Int) i) (hL : Listed (b.drop k) d i l j) (hl : l.length ≤ 40) (hp : VD.partsL l + 1 ≤ 200) : VReads b (d + 1) (.mk 2 0 [] l) (k + j) :=
  vreads_list h ht hL.shift hl hp
end Go.Proofs.YtdlbpbglidhlfaaGreatDoor
