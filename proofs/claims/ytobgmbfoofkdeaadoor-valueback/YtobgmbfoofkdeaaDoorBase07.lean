/- ValConcat, ValBackM, ValImplB2, WireImplD, WireImplE, WireCut, WireImplF, GenWant, WireImplG, ValImplT, ValReadsP: our own definitions and contracts; no statement of the seat is proved here. -/
import Derived.Test.YtobgmbfoofkdeaaDoorBase00
import Derived.Test.YtobgmbfoofkdeaaDoorBase06
import Derived.Test.YtobgmbfoofkdeaaDoorBase03
import Derived.Test.YtobgmbfoofkdeaaDoorBase04
import Derived.Test.YtobgmbfoofkdeaaDoorBase05
import Derived.WalkLawsBesides
namespace Go.Proofs.YtobgmbfoofkdeaaDoor
open Go.RowKit

/-- Slices of bytes, in a row in the block g. -/
def RowsB (w : World) (g : Nat) (rows : List (List UInt8)) : Prop := ∀ i x, rows[i]? = some x → ∃ a c, w.cell? ⟨g, i, none⟩ = some (.slice a x.length c) ∧ Bytes w (.slice a x.length c) x
theorem RowsB.later {w W : World} {g : Nat} {rows : List (List UInt8)} (h : RowsB w g rows) (hb : Below w.heap.size w W) : RowsB W g rows := fun i x hx => by
  obtain ⟨a, c, h1, h2⟩ := h i x hx
  exact ⟨a, c, (hb.cell (World.block_lt_of_cell? _ _ h1)).trans h1, h2.kept fun k _ hk => hb.block k hk⟩

set_option maxRecDepth 100000 in
set_option maxHeartbeats 1000000 in
theorem growV_any (m : Nat) (hm : m ≤ 1048576) (w : World) : Calls Tryd.prog 63 #[.slice none 0 0, .int .i64 ((m : Nat) : Int)] w fun e w' => ∃ v, e = .returned v ∧ Own w v [] w' := by
  by_cases h0 : m = 0
  · subst h0
    go_enter Tryd.func63, Tryd.ntmps63
    go_wp2_with fail
    go_ret
    exact ⟨_, rfl, Own.start w⟩
  · obtain ⟨ti, hti, hz0, hz1, hz2⟩ := infoByte
    have h1 : (m : Int) > 0 := by omega
    have h2 : ¬ (m : Int) < 0 := by omega
    have HO := hide (Own.start w)
    go_enter Tryd.func63, Tryd.ntmps63
    go_wp2_with (at_builtin; refine wpList_append_noughts _ rfl _ _ 25 3 rfl 5 ti .i64 .i64 Tryd.underlying25 Tryd.underlying3 hti hz0 hz1 hz2 _ [] rfl (unhide HO).own m rfl (by simp; omega) ?_)
    rintro v1 w1 r1 r2 r3
    have HF : Hid (∃ g cap, v1 = .slice (some ⟨g, 0, none⟩) m cap ∧ Own w (.slice (some ⟨g, 0, none⟩) 0 cap) [] w1) := by
      have hb : Below w.heap.size w w1 := (unhide HO).bb.grown r2 (Nat.le_refl _) fun k hk => (by cases hk)
      rcases r1.2 with ⟨_, h⟩ | ⟨g, cap, cur, e, e2, e3, e4, e5, e6, e7⟩
      · exact absurd h h0
      · refine ⟨g, cap, e, ⟨⟨by simp, .inr ⟨g, cap, cur, rfl, Nat.zero_le _, e3, Nat.zero_le _, e5, e6, by simp⟩⟩, fun k hk => ?_, hb⟩⟩
        have hk' : g = k := by simpa [Value.ownBlock] using hk
        subst hk'
        rcases r3 with e' | ⟨k', e', h'⟩
        · rw [e] at e'; cases e'
        · rw [e] at e'; cases e'; exact h'
    clear r1 r2 r3 HO
    obtain ⟨g, cap, e, hO⟩ := unhide HF
    subst e
    have HO := hide hO
    clear hO HF
    go_wp2_with fail
    go_ret
    exact ⟨_, rfl, unhide HO⟩

theorem flat_takeV {rows : List (List UInt8)} {j : Nat} {x : List UInt8} (hx : rows[j]? = some x) : (rows.take (j + 1)).flatten = (rows.take j).flatten ++ x := by
  obtain ⟨hj, rfl⟩ := List.getElem?_eq_some_iff.1 hx
  rw [List.take_succ_eq_append_getElem hj, List.flatten_append, List.flatten_singleton]
theorem flat_leV (rows : List (List UInt8)) (j : Nat) : (rows.take j).flatten.length ≤ rows.flatten.length := by
  conv => rhs; rw [← List.take_append_drop j rows]
  rw [List.flatten_append, List.length_append]
  omega

theorem some_getV {α : Type} {xs : List α} {j : Nat} (h : j < xs.length) : ∃ x, xs[j]? = some x := ⟨_, List.getElem?_eq_getElem h⟩
/-- How long rows are, together. -/
def flatLen (rows : List (List UInt8)) : Nat := rows.flatten.length
theorem flatLen_le (rows : List (List UInt8)) (j : Nat) : flatLen (rows.take j) ≤ flatLen rows := flat_leV rows j
theorem flatLen_take {rows : List (List UInt8)} {j : Nat} {x : List UInt8} (hx : rows[j]? = some x) : flatLen (rows.take (j + 1)) = flatLen (rows.take j) + x.length := by unfold flatLen; rw [flat_takeV hx, List.length_append]
set_option maxRecDepth 100000 in
set_option maxHeartbeats 2000000 in
theorem concatV_any (g c : Nat) (rows : List (List UInt8)) (w : World) (h : RowsB w g rows) (ht : flatLen rows ≤ 1048576) (hl : rows.length ≤ 1048576) : Calls Tryd.prog 45 #[.slice (some ⟨g, 0, none⟩) rows.length c] w fun e w' => ∃ v, e = .returned v ∧ Own w v rows.flatten w' := by
  obtain ⟨n, hn⟩ : ∃ n, n = rows.length := ⟨_, rfl⟩
  rw [← hn] at hl ⊢
  have HH := hide h
  have HN := hide hn
  have HT := hide ht
  obtain ⟨ti, hti, hz0, hz1, hz2⟩ := infoByte
  clear h hn ht
  go_enter Tryd.func45, Tryd.ntmps45
  go_wp2_with fail
  go_loopw [3, 11] (fun s i W => ∃ j : Nat, j ≤ n ∧ i = .int .i64 j ∧ s = .int .i64 ((flatLen (rows.take j) : Nat) : Int) ∧ W = w) (fun _ i _ => n - (intOf i).toNat)
  case atStart => exact ⟨0, Nat.zero_le _, rfl, by simp [flatLen], rfl⟩
  case round =>
    obtain ⟨j, hj, rfl, rfl, rfl⟩ := hrel
    have HTL : Hid (∀ j, flatLen (rows.take j) ≤ 1048576) := fun j => Nat.le_trans (flatLen_le rows j) (unhide HT)
    by_cases hlt : j < n
    · obtain ⟨x, hx⟩ := some_getV (xs := rows) (j := j) (by have := unhide HN; omega)
      obtain ⟨d1, k1, x1, x3⟩ := unhide HH j x hx
      have i1 : (j : Int) < (n : Int) := by omega
      have HTT := hide (flatLen_take hx)
      have hle := unhide HTL (j + 1)
      rw [unhide HTT] at hle
      clear x3 hx
      generalize flatLen (rows.take j) = t0 at *
      generalize x.length = nx at *
      obtain ⟨E, hE⟩ : ∃ E, E = t0 + nx := ⟨_, rfl⟩
      have gE : (t0 : Int) + (nx : Int) = (E : Int) := by omega
      have gE2 : ¬ (E : Int) < 0 := by omega
      have gE3 : E ≤ 1048576 := by omega
      have HE := hide hE
      clear hE hle
      go_wp2_with fail
      exact ⟨⟨j + 1, by omega, by go_num, by rw [unhide HTT, ← unhide HE], by trivial⟩, by simp [intOf]; omega⟩
    · have ej : n = j := by omega
      subst ej
      have HTK : Hid (rows.take n = rows) := List.take_of_length_le (by have := unhide HN; omega)
      rw [unhide HTK]
      obtain ⟨wx, hwx⟩ : ∃ wx, wx = wr := ⟨_, rfl⟩
      subst hwx
      go_wp2_with fail
      refine (growV_any (flatLen rows) (unhide HT) _).mono ?_
      rintro e w2 ⟨v2, rfl, hO⟩
      have HO := hide hO
      clear hO
      go_wp2_with fail
      go_loopw [6, 27] (fun v i W => ∃ j : Nat, j ≤ n ∧ i = .int .i64 j ∧ Own wx v (rows.take j).flatten W) (fun _ i _ => n - (intOf i).toNat)
      case atStart => exact ⟨0, Nat.zero_le _, rfl, unhide HO⟩
      case round =>
        obtain ⟨j, hj, rfl, hO⟩ := hrel
        have HO := hide hO
        clear hO
        by_cases hlt : j < n
        · obtain ⟨x, hx⟩ := some_getV (xs := rows) (j := j) (by have := unhide HN; omega)
          obtain ⟨d1, k1, x1, x3⟩ := RowsB.later (unhide HH) (unhide HO).bb j x hx
          have i1 : (j : Int) < (n : Int) := by omega
          have X3 := hide x3
          have HFT := hide (flat_takeV hx)
          have HLE : Hid ((rows.take j).flatten.length + x.length ≤ 140737488355328) := by
            have := unhide HTL (j + 1)
            rw [flatLen_take hx] at this
            change flatLen (rows.take j) + x.length ≤ 140737488355328
            omega
          clear x3 hx
          obtain ⟨nx, hnx⟩ : ∃ nx, nx = x.length := ⟨_, rfl⟩
          rw [← hnx] at x1 X3
          clear hnx
          go_wp2_with (at_builtin; refine wpList_append_bytes _ rfl _ _ 25 rfl 5 ti (.int .u8 0) Tryd.underlying25 hti hz0 hz1 hz2 rfl _ _ rfl (unhide HO).own _ _ rfl (unhide X3) (unhide HLE) ?_)
          rintro v8 w8 r1 r2 r3
          have HO4 : Hid (Own wx v8 (rows.take (j + 1)).flatten w8) := by
            have h := (unhide HO).grown (cs := (rows.take j).flatten ++ x) (by simpa using r1) r2 r3
            rw [← unhide HFT] at h
            exact h
          clear r1 r2 r3 HO
          go_wp2_with fail
          exact ⟨⟨j + 1, by omega, by go_num, unhide HO4⟩, by simp [intOf]; omega⟩
        · have ej : n = j := by omega
          subst ej
          rw [unhide HTK] at HO
          go_wp2_with fail
          go_ret
          exact ⟨_, rfl, unhide HO⟩
end Go.Proofs.YtobgmbfoofkdeaaDoor

namespace Go.Proofs.YtobgmbfoofkdeaaDoor

theorem right_parts {v : VD} (h : v.right = true) : v.kinds = true ∧ v.deep ≤ 6 ∧ v.parts ≤ 200 := by
  unfold VD.right at h
  simp only [Bool.and_eq_true, decide_eq_true_eq] at h
  exact ⟨h.1.1, h.1.2, h.2⟩
theorem vreads_right {v : VD} (r : List UInt8) (h : v.right = true) (hf : v.Fits) : VReads (v.bytes ++ r) 6 v v.bytes.length :=
  VReads.of (right_parts h).1 (right_parts h).2.1 (right_parts h).2.2 hf rfl
theorem VReads.right {b : List UInt8} {v : VD} {j : Nat} (h : VReads b 6 v j) : v.right = true := by
  unfold VD.right
  rw [h.kinds, decide_eq_true h.deep, decide_eq_true h.parts]
  rfl
theorem VReads.taken {b : List UInt8} {d : Nat} {v : VD} {j : Nat} (h : VReads b d v j) : b.take j = v.bytes := by
  rw [h.eq, h.len, List.take_left' rfl]
theorem noVal_less {v : VD} {i d : Nat} (hv : v.kinds = true) (h : i < v.bytes.length) : NoVal (v.bytes.take i) d := fun v' j hr => by
  have e := hr.eq
  have h2 : v'.bytes ++ ((v.bytes.take i).drop j ++ v.bytes.drop i) = v.bytes ++ [] := by
    rw [← List.append_assoc, ← e, List.take_append_drop, List.append_nil]
  obtain ⟨_, h3⟩ := VD.bytes_prefix v' v _ _ hr.kinds hv h2
  have h4 := congrArg List.length h3
  simp only [List.length_append, List.length_drop, List.length_nil] at h4
  omega
/-- Unlike right values have unlike bytes. -/
theorem bytes_part {v w : VD} (hv : v.right = true) (hw : w.right = true) : v.bytes = w.bytes ↔ v = w := by
  constructor
  · intro h
    exact (VD.bytes_prefix v w [] [] (right_parts hv).1 (right_parts hw).1 (by rw [h])).1
  · intro h
    rw [h]
end Go.Proofs.YtobgmbfoofkdeaaDoor

namespace Go.Proofs.YtobgmbfoofkdeaaDoor
open Go.RowKit

theorem VD.right_bytes_le {v : VD} (h : v.right = true) (hf : v.Fits) : v.bytes.length ≤ 26000 := by
  have h1 := VD.bytes_le v (right_parts h).1 hf
  have := (right_parts h).2.2
  omega

set_option maxRecDepth 100000 in
set_option maxHeartbeats 2000000 in
theorem vBytes_any (v : VD) (B : Nat → Prop) (u : Value) (w : World) (hA : v.At B w u) : Calls Tryd.prog 10 #[u] w fun e w' => (v.right = true ∧ ∃ r, e = .returned (.tuple #[r, .int .i64 0]) ∧ Own w r v.bytes w') ∨ (v.right = false ∧ e = .returned (.tuple #[.slice none 0 0, .int .i64 2]) ∧ Below w.heap.size w w') := by
  have HR0 : Hid (∀ W, Below w.heap.size w W → Calls Tryd.prog 12 #[u] W fun e w' => e = .returned (.bool v.right) ∧ Below W.heap.size W w') := fun W hW => right_any v B u W (hA.later hW)
  have HS0 : Hid (v.right = true → ∀ W, Below w.heap.size w W → Calls Tryd.prog 31 #[.slice none 0 0, u] W fun e w' => ∃ r', e = .returned r' ∧ Own W r' v.bytes w') := fun hr W hW => (said_any v B u (.slice none 0 0) [] W W (hA.later hW) (Own.start W) (right_parts hr).1 (by have := VD.right_bytes_le hr hA.fits; simp; omega)).mono fun e w' h => by simpa using h
  obtain ⟨a, c, rfl, -, -⟩ := hA.box
  obtain ⟨n, hn⟩ : ∃ n, n = v.l.length := ⟨_, rfl⟩
  obtain ⟨K, hK⟩ : ∃ K, K = v.k := ⟨_, rfl⟩
  obtain ⟨N, hN⟩ : ∃ N, N = v.n := ⟨_, rfl⟩
  obtain ⟨z, hz⟩ : ∃ z : ByteArray, z = ⟨v.s.toArray⟩ := ⟨_, rfl⟩
  rw [← hn, ← hK, ← hN, ← hz] at HR0 HS0 ⊢
  obtain ⟨W1, hW1⟩ : ∃ W1, W1 = w.alloc (.cells #[.int .u8 ((K : Nat) : Int), .int .i64 N, .string z, .slice a n c] 24) := ⟨_, rfl⟩
  have hb1 : Below w.heap.size w W1 := by rw [hW1]; exact (Below.refl _ w).alloc (Nat.le_refl _) _
  have hr1 : W1.heap[w.heap.size]? = some (.cells #[.int .u8 ((K : Nat) : Int), .int .i64 N, .string z, .slice a n c] 24 (0, 0)) := by rw [hW1]; exact heap_alloc_new w _
  obtain ⟨⟨c0, c1, c2, c3⟩, -⟩ := cells4 hr1
  have HW1 := hide hW1
  have HB1 := hide hb1
  have HR1 := hide hr1
  clear hA hn hK hN hz hW1 hb1 hr1
  go_enter Tryd.func10, Tryd.ntmps10
  go_upto_region 1 with fail
  rw [← unhide HW1]
  clear HW1
  go_wp2_with fail
  refine (unhide HR0 _ (unhide HB1)).mono ?_
  rintro e W2 ⟨rfl, hb2⟩
  have hr2 := (hb2.block _ (lt_rowV (unhide HR1))).trans (unhide HR1)
  have HB2 := hide ((unhide HB1).trans (hb2.mono (unhide HB1).size))
  clear hb2 c0 c1 c2 c3
  obtain ⟨⟨c0, c1, c2, c3⟩, -⟩ := cells4 hr2
  clear hr2
  obtain ⟨rt, hrt⟩ : ∃ rt, rt = v.right := ⟨_, rfl⟩
  rw [← hrt]
  have HRT := hide hrt
  clear hrt
  cases rt with
  | false =>
    go_wp2_with fail
    go_ret2
    exact .inr ⟨(unhide HRT).symm, rfl, unhide HB2⟩
  | true =>
    go_wp2_with fail
    refine (unhide HS0 (unhide HRT).symm _ (unhide HB2)).mono ?_
    rintro e W3 ⟨r3, rfl, hO⟩
    have HO := hide (hO.lift (unhide HB2))
    clear hO c0 c1 c2 c3
    go_wp2_with fail
    go_ret2
    exact .inl ⟨(unhide HRT).symm, _, rfl, unhide HO⟩

set_option maxRecDepth 100000 in
set_option maxHeartbeats 2000000 in
theorem vPut_any (v : VD) (B : Nat → Prop) (u : Value) (pa : Option Addr) (pn pc : Nat) (bs : List UInt8) (w : World) (hA : v.At B w u) (hr : v.right = true) (hp : Bytes w (.slice pa pn pc) bs) (hl : bs.length ≤ 1000000) : Calls Tryd.prog 24 #[.slice pa pn pc, u] w fun e w' => ∃ r, e = .returned r ∧ Own w r (bs ++ v.bytes) w' := by
  have HB0 : Hid (∀ W, Below w.heap.size w W → Calls Tryd.prog 10 #[u] W fun e w' => ∃ a c, e = .returned (.tuple #[.slice a v.bytes.length c, .int .i64 0]) ∧ Own W (.slice a v.bytes.length c) v.bytes w') := fun W hW => (vBytes_any v B u W (hA.later hW)).mono fun e w' h => by
    rcases h with ⟨_, r, rfl, hO⟩ | ⟨h, _⟩
    · obtain ⟨a, c, rfl, _⟩ := hO.fresh.1.1.form
      exact ⟨a, c, rfl, hO⟩
    · rw [hr] at h; cases h
  have HLE := hide (VD.right_bytes_le hr hA.fits)
  have HP := hide hp
  have HL := hide hl
  obtain ⟨hbl, -⟩ := bytes_len hp
  have HBL := hide hbl
  obtain ⟨a, c, rfl, -, -⟩ := hA.box
  obtain ⟨n, hn⟩ : ∃ n, n = v.l.length := ⟨_, rfl⟩
  obtain ⟨K, hK⟩ : ∃ K, K = v.k := ⟨_, rfl⟩
  obtain ⟨N, hN⟩ : ∃ N, N = v.n := ⟨_, rfl⟩
  obtain ⟨z, hz⟩ : ∃ z : ByteArray, z = ⟨v.s.toArray⟩ := ⟨_, rfl⟩
  rw [← hn, ← hK, ← hN, ← hz] at HB0 ⊢
  generalize v.bytes = vb at *
  obtain ⟨vn, hvn⟩ : ∃ vn, vn = vb.length := ⟨_, rfl⟩
  rw [← hvn] at HB0
  have HVN := hide hvn
  obtain ⟨W1, hW1⟩ : ∃ W1, W1 = w.alloc (.cells #[.int .u8 ((K : Nat) : Int), .int .i64 N, .string z, .slice a n c] 24) := ⟨_, rfl⟩
  have hb1 : Below w.heap.size w W1 := by rw [hW1]; exact (Below.refl _ w).alloc (Nat.le_refl _) _
  have hr1 : W1.heap[w.heap.size]? = some (.cells #[.int .u8 ((K : Nat) : Int), .int .i64 N, .string z, .slice a n c] 24 (0, 0)) := by rw [hW1]; exact heap_alloc_new w _
  obtain ⟨⟨c0, c1, c2, c3⟩, -⟩ := cells4 hr1
  have HW1 := hide hW1
  have HB1 := hide hb1
  clear hA hn hK hN hz hW1 hb1 hr1 hr hp hl hbl hvn
  go_enter Tryd.func24, Tryd.ntmps24
  go_upto_region 1 with fail
  rw [← unhide HW1]
  clear HW1
  go_wp2_with fail
  refine (unhide HB0 _ (unhide HB1)).mono ?_
  rintro e W2 ⟨ra, rc, rfl, hO⟩
  obtain ⟨W3, hW3⟩ : ∃ W3, W3 = W2.alloc (.cells #[.slice pa pn pc, .slice ra vn rc] 25) := ⟨_, rfl⟩
  have hb3 : Below W2.heap.size W2 W3 := by rw [hW3]; exact (Below.refl _ _).alloc (Nat.le_refl _) _
  have hr3 : W3.heap[W2.heap.size]? = some (.cells #[.slice pa pn pc, .slice ra vn rc] 25 (0, 0)) := by rw [hW3]; exact heap_alloc_new _ _
  have hb2 : Below w.heap.size w W2 := (unhide HB1).trans (hO.bb.mono (unhide HB1).size)
  have HB3 : Hid (Below w.heap.size w W3) := hb2.trans (hb3.mono hb2.size)
  have HRB : Hid (RowsB W3 W2.heap.size [bs, vb]) := fun i x hx => by
    match i, hx with
    | 0, hx =>
      have hx : bs = x := by simpa using hx
      subst hx
      exact ⟨pa, pc, by rw [unhide HBL]; exact cell_of_row _ _ 0 _ _ _ hr3, by rw [unhide HBL]; exact (unhide HP).kept fun k _ hk => (unhide HB3).block k hk⟩
    | 1, hx =>
      have hx : vb = x := by simpa using hx
      subst hx
      exact ⟨ra, rc, by rw [← unhide HVN]; exact cell_of_row _ _ 1 _ _ _ hr3, by rw [← unhide HVN]; exact (hO.later hb3).fresh.1.1⟩
  have HC : Hid (Calls Tryd.prog 45 #[.slice (some ⟨W2.heap.size, 0, none⟩) 2 2] W3 fun e w' => ∃ v, e = .returned v ∧ Own W3 v (bs ++ vb) w') := (concatV_any W2.heap.size 2 [bs, vb] W3 (unhide HRB) (by unfold flatLen; have := unhide HL; have := unhide HLE; simp; omega) (by simp)).mono fun e w' h => by simpa using h
  have HW3 := hide hW3
  clear hO hW3 hb3 hr3 hb2 c0 c1 c2 c3 HRB
  go_wp2_with fail
  rw [← unhide HW3]
  refine (unhide HC).mono ?_
  rintro e W4 ⟨r4, rfl, hO4⟩
  have HO4 := hide (hO4.lift (unhide HB3))
  clear hO4
  go_wp2_with fail
  go_ret
  exact ⟨_, rfl, unhide HO4⟩
end Go.Proofs.YtobgmbfoofkdeaaDoor

namespace Go.Proofs.YtobgmbfoofkdeaaDoor
open Go.RowKit Go.Shelf Go.Lib

theorem or_step (j x y : Nat) (hj : j ≤ 9) (hx : x < 128 ^ j) : bits .or .u64 ((x : Nat) : Int) (IntKind.u64.wrap (((y : Nat) : Int) % 128 * 2 ^ (7 * j))) = (((x + 128 ^ j * (y % 128)) % 18446744073709551616 : Nat) : Int) := by
  have key : ∀ (k : Nat) (K : Nat) (D : Nat), K = 2 ^ k → K * D = 18446744073709551616 → x < K → (2 : Int) ^ k = ((K : Nat) : Int) → bits .or .u64 ((x : Nat) : Int) (IntKind.u64.wrap (((y : Nat) : Int) % 128 * ((K : Nat) : Int))) = (((x + K * (y % 128)) % 18446744073709551616 : Nat) : Int) := by
    intro k K D hK hD hxK _
    have e1 : IntKind.u64.wrap (((y : Nat) : Int) % 128 * ((K : Nat) : Int)) = ((((y % 128) % D) * K : Nat) : Int) := by
      rw [IntKind.wrap_u64, show ((y : Nat) : Int) % 128 * ((K : Nat) : Int) = (((y % 128) * K : Nat) : Int) by rw [Int.natCast_mul]; rfl]
      have : ((y % 128) % D) * K = (y % 128 * K) % 18446744073709551616 := by rw [← hD, Nat.mul_comm K D, Nat.mul_mod_mul_right]
      rw [this]
      omega
    have hDp : 0 < D := Nat.pos_of_ne_zero fun e => by subst e; omega
    have hb : (y % 128) % D < D := Nat.mod_lt _ hDp
    have hle : ((y % 128) % D) * K + K ≤ 18446744073709551616 := by
      have := Nat.mul_le_mul_right K (show (y % 128) % D + 1 ≤ D by omega)
      rw [Nat.add_mul, Nat.one_mul, Nat.mul_comm D K, hD] at this
      exact this
    rw [e1]
    refine (u64_or_nat x _ (by omega) (by omega)).trans ?_
    have e2 : x ||| (y % 128 % D * K) = x + y % 128 % D * K := by rw [hK]; exact or_part x _ k (by rw [← hK]; exact hxK)
    rw [e2]
    have e3 : K * (y % 128) = y % 128 % D * K + 18446744073709551616 * (y % 128 / D) := by
      have h1 := Nat.div_add_mod (y % 128) D
      rw [← hD, Nat.mul_assoc, Nat.mul_comm (y % 128 % D) K, ← Nat.mul_add]
      congr 1
      omega
    congr 1
    rw [e3]
    omega
  have hpow : (128 : Nat) ^ j = 2 ^ (7 * j) := by rw [Nat.pow_mul]
  have hi : (2 : Int) ^ (7 * j) = ((128 ^ j : Nat) : Int) := by rw [hpow]; simp
  have hd : (128 : Nat) ^ j * 2 ^ (64 - 7 * j) = 18446744073709551616 := by rw [hpow, ← Nat.pow_add, show 7 * j + (64 - 7 * j) = 64 by omega]
  rw [hi]
  exact key (7 * j) (128 ^ j) (2 ^ (64 - 7 * j)) hpow hd hx hi
theorem jn_lt64 (bs : List UInt8) : jn64 bs < 18446744073709551616 := Nat.mod_lt _ (by decide)
theorem jn_small (bs : List UInt8) (h : bs.length ≤ 9) : jn64 bs = val bs := by
  unfold jn64
  have h1 := val_lt bs
  have h2 := Nat.pow_le_pow_right (n := 128) (by omega) h
  have h3 : (128 ^ 9 : Nat) = 9223372036854775808 := by decide
  exact Nat.mod_eq_of_lt (by omega)
theorem jn_succ (bs : List UInt8) (j : Nat) (hj : j < bs.length) (h9 : j ≤ 9) : bits .or .u64 ((jn64 (bs.take j) : Nat) : Int) (IntKind.u64.wrap ((((bs.getD j 0).toNat : Nat) : Int) % 128 * 2 ^ (7 * j))) = ((jn64 (bs.take (j + 1)) : Nat) : Int) := by
  have hl : (bs.take j).length = j := by rw [List.length_take]; omega
  rw [jn_small _ (by omega)]
  have hv := val_lt (bs.take j)
  rw [hl] at hv
  rw [or_step j _ _ h9 hv]
  congr 1
  unfold jn64
  rw [List.take_succ_eq_append_getElem hj, val_append, hl, List.getD_eq_getElem?_getD, List.getElem?_eq_getElem hj]
  simp [val]

set_option maxRecDepth 100000 in
set_option maxHeartbeats 2000000 in
theorem joined_any (u : Value) (bs : List UInt8) (w : World) (h : Bytes w u bs) (hl : bs.length ≤ 10) : Calls Tryd.prog 77 #[u] w fun e w' => e = .returned (.int .u64 ((jn64 bs : Nat) : Int)) ∧ w' = w := by
  obtain ⟨a, c, rfl, hlc⟩ := h.form
  obtain ⟨n, hn⟩ : ∃ n, n = bs.length := ⟨_, rfl⟩
  rw [← hn] at h hlc hl ⊢
  have HH := hide h
  have HN := hide hn
  clear h hn
  go_enter Tryd.func77, Tryd.ntmps77
  go_wp2
  go_loopw [3, 8] (fun r k W => ∃ j : Nat, j ≤ n ∧ k = .int .i64 j ∧ r = .int .u64 ((jn64 (bs.take j) : Nat) : Int) ∧ W = w) (fun _ k _ => n - (intOf k).toNat)
  case atStart => exact ⟨0, by omega, rfl, by simp [jn64, val], rfl⟩
  case round =>
    obtain ⟨j, hj, rfl, rfl, rfl⟩ := hrel
    by_cases hlt : j < n
    · obtain ⟨ad, rfl, hc⟩ := (unhide HH).at hlt (unhide HN).symm
      have hk1 : (j : Int) < (n : Int) := by omega
      have HS := hide (jn_succ bs j (by have := unhide HN; omega) (by omega))
      generalize jn64 (bs.take j) = x at *
      have hyl : (bs.getD j 0).toNat < 256 := (bs.getD j 0).toNat_lt
      generalize (bs.getD j 0).toNat = y at *
      go_wp2
      exact ⟨⟨j + 1, by omega, by go_num, by rw [unhide HS], trivial⟩, by simp [intOf]; omega⟩
    · have e : j = n := by omega
      subst e
      have HT : Hid (bs.take j = bs) := List.take_of_length_le (by have := unhide HN; omega)
      rw [unhide HT]
      go_wp2
      go_ret
      exact ⟨rfl, rfl⟩
end Go.Proofs.YtobgmbfoofkdeaaDoor

namespace Go.Proofs.YtobgmbfoofkdeaaDoor
open Go.RowKit Go.Shelf Go.Lib

/-- Where the first byte is that ends a number. -/
def EndAt (bs : List UInt8) (i : Int) : Prop := (∃ (p : List UInt8) (y : UInt8) (r : List UInt8), bs = p ++ y :: r ∧ Highs p ∧ y.toNat < 128 ∧ i = p.length) ∨ (Highs bs ∧ i = -1)

set_option maxRecDepth 100000 in
set_option maxHeartbeats 2000000 in
theorem indexFunc_any (u : Value) (bs : List UInt8) (w : World) (h : Bytes w u bs) (hl : bs.length ≤ 1048576) : Calls Tryd.prog 74 #[u, .func (.func 75) #[] #[]] w fun e w' => (∃ i : Int, EndAt bs i ∧ e = .returned (.int .i64 i)) ∧ w' = w := by
  obtain ⟨a, c, rfl, hlc⟩ := h.form
  obtain ⟨n, hn⟩ : ∃ n, n = bs.length := ⟨_, rfl⟩
  rw [← hn] at h hlc hl ⊢
  have HH := hide h
  have HN := hide hn
  clear h hn
  go_enter Tryd.func74, Tryd.ntmps74
  go_wp2
  go_loopw [8] (fun k W => ∃ j : Nat, j ≤ n ∧ k = .int .i64 j ∧ Highs (bs.take j) ∧ W = w) (fun k _ => n - (intOf k).toNat)
  case atStart => exact ⟨0, by omega, rfl, fun x hx => by simp at hx, rfl⟩
  case round =>
    obtain ⟨j, hj, rfl, hH, rfl⟩ := hrel
    have HHI := hide hH
    clear hH
    by_cases hlt : j < n
    · obtain ⟨ad, rfl, hc⟩ := (unhide HH).at hlt (unhide HN).symm
      have hk1 : (j : Int) < (n : Int) := by omega
      have HX : Hid (bs.getD j 0 = bs.getD j 0) := rfl
      have HP : Hid (bs = bs.take j ++ bs.getD j 0 :: bs.drop (j + 1)) := by
        show _ = _
        rw [List.getD_eq_getElem?_getD, List.getElem?_eq_getElem (by have := unhide HN; omega), Option.getD_some, ← List.drop_eq_getElem_cons, List.take_append_drop]
      have HL : Hid ((bs.take j).length = j) := by show _ = _; rw [List.length_take]; have := unhide HN; omega
      have HSU : Hid (bs.take (j + 1) = bs.take j ++ [bs.getD j 0]) := by
        show _ = _
        rw [List.getD_eq_getElem?_getD, List.getElem?_eq_getElem (by have := unhide HN; omega), List.take_succ_eq_append_getElem (by have := unhide HN; omega)]
        rfl
      generalize bs.getD j 0 = y at *
      go_wp2_with fail
      refine (isLast_any y.toNat _).mono ?_
      rintro e w' ⟨rfl, rfl⟩
      by_cases hy : y.toNat < 128
      · have hd : decide (y.toNat < 128) = true := decide_eq_true hy
        rw [hd]
        go_wp2
        go_ret
        exact ⟨⟨_, .inl ⟨bs.take j, y, _, unhide HP, unhide HHI, hy, by rw [unhide HL]⟩, rfl⟩, rfl⟩
      · have hd : decide (y.toNat < 128) = false := decide_eq_false hy
        rw [hd]
        go_wp2
        refine ⟨⟨j + 1, by omega, by go_num, fun x hx => ?_, trivial⟩, by simp [intOf]; omega⟩
        rw [unhide HSU] at hx
        rcases List.mem_append.1 hx with h1 | h1
        · exact unhide HHI x h1
        · rw [List.mem_singleton.1 h1]; omega
    · have e : j = n := by omega
      subst e
      have HT : Hid (bs.take j = bs) := List.take_of_length_le (by have := unhide HN; omega)
      go_wp2
      go_ret
      exact ⟨⟨_, .inr ⟨by rw [← unhide HT]; exact unhide HHI, rfl⟩, rfl⟩, rfl⟩

set_option maxHeartbeats 400000 in
theorem bytesEqual_any (u1 u2 : Value) (b1 b2 : List UInt8) (w : World) (h1 : Bytes w u1 b1) (h2 : Bytes w u2 b2) : Calls Tryd.prog 78 #[u1, u2] w fun e w' => e = .returned (.bool (decide (b1 = b2))) ∧ w' = w := by
  have c1 := run_convert_bytes (P := Tryd.prog) w 25 9 5 Tryd.underlying25 Tryd.underlying5 Tryd.underlying9 u1 b1 h1
  have c2 := run_convert_bytes (P := Tryd.prog) w 25 9 5 Tryd.underlying25 Tryd.underlying5 Tryd.underlying9 u2 b2 h2
  have e0 : ((⟨b1.toArray⟩ : ByteArray).toList == (⟨b2.toArray⟩ : ByteArray).toList) = decide (b1 = b2) := by
    rw [ByteArray.toList_eq, ByteArray.toList_eq, Bool.eq_iff_iff]; simp
  have HE : Hid (((⟨b1.toArray⟩ : ByteArray).toList == (⟨b2.toArray⟩ : ByteArray).toList) = decide (b1 = b2)) := e0
  clear e0 h1 h2
  generalize (⟨b1.toArray⟩ : ByteArray) = s1 at *
  generalize (⟨b2.toArray⟩ : ByteArray) = s2 at *
  go_enter Tryd.func78, Tryd.ntmps78
  go_wp2
  go_ret
  exact ⟨ret_bool HE.out, rfl⟩
end Go.Proofs.YtobgmbfoofkdeaaDoor

namespace Go.Proofs.YtobgmbfoofkdeaaDoor
open Go.RowKit

/-- Where a slice's bytes from place k on lie. -/
def wcutA (a : Option Addr) (n k : Nat) : Option Addr := if n = k then a else a.map (·.add k)

theorem Bytes.cut {w : World} {a : Option Addr} {n c k : Nat} {bs : List UInt8} (h : Bytes w (.slice a n c) bs) (hk : k ≤ n) : Bytes w (.slice (wcutA a n k) (n - k) (n - k)) (bs.drop k) := by
  obtain ⟨hl, hnc⟩ := bytes_len h
  have hdl : (bs.drop k).length = n - k := by rw [List.length_drop, hl]
  rcases h with ⟨hv, rfl⟩ | ⟨ad, c', hv, h1, h2, hr⟩
  · simp only [Value.slice.injEq] at hv
    obtain ⟨rfl, rfl, rfl⟩ := hv
    have : k = 0 := by omega
    subst this
    exact .inl ⟨rfl, rfl⟩
  · simp only [Value.slice.injEq] at hv
    obtain ⟨rfl, _, rfl⟩ := hv
    by_cases e : n = k
    · subst e
      refine .inr ⟨ad, n - n, by rw [hdl, wcutA, if_pos rfl], by omega, by unfold maxLen at *; omega, fun j x hx => ?_⟩
      rw [List.drop_of_length_le (by omega)] at hx
      cases hx
    · refine .inr ⟨ad.add k, n - k, by rw [hdl, wcutA, if_neg e]; rfl, by omega, by unfold maxLen at *; omega, fun j x hx => ?_⟩
      rw [List.map_drop, List.getElem?_drop] at hx
      rw [Addr.add_add]
      exact hr _ _ hx

section
variable {a : Option Addr} {n c : Nat}
theorem typ_bytes : Tryd.prog.underlying 25 = some (.slice (Tryd.prog.elem 25)) := by
  have hel : Tryd.prog.elem 25 = 5 := by unfold Program.elem; rw [Tryd.underlying25]
  rw [hel]; exact Tryd.underlying25
theorem cut_run {k : Nat} (h1 : k ≤ n) (h2 : n ≤ c) : (∀ W : World, (Instr.slice 25 (.slice a n c) (some (.int .i64 (k : Nat))) (some (.int .i64 (n : Nat))) (some (.int .i64 (n : Nat)))).run Tryd.prog W = .ok (.slice (wcutA a n k) (n - k) (n - k)) W) ∧
    (∀ W : World, (Instr.sliceAt 25 (.slice a n c) (some (.int .i64 (k : Nat))) (some (.int .i64 (n : Nat))) (some (.int .i64 (n : Nat)))).run Tryd.prog W = .ok (.slice (wcutA a n k) (n - k) (n - k)) W) := by
  have hel : Tryd.prog.elem 25 = 5 := by unfold Program.elem; rw [Tryd.underlying25]
  have hr : ∀ W : World, (Instr.slice 25 (.slice a n c) (some (.int .i64 (k : Nat))) (some (.int .i64 (n : Nat))) (some (.int .i64 (n : Nat)))).run Tryd.prog W = .ok (.slice (wcutA a n k) (n - k) (n - k)) W := fun W => by
    rw [run_slice_lhm W 25 a n c typ_bytes .i64 .i64 .i64 k n n (by omega) (by omega) (by omega) (by omega), hel]
    have hsz : (sizeOf 5).run Tryd.prog W = .ok 1 W := by simp [sizeOf]; rfl
    rw [hsz]
    simp only [Result.andThen, sliced, Int.toNat_natCast, Nat.mul_one, wcutA]
  exact ⟨hr, fun W => by rw [run_sliceAt_slice W _ _ _ _ _ typ_bytes]; exact hr W⟩
theorem wcutL_run {k : Nat} (h1 : k ≤ n) : (∀ W : World, (Instr.slice 25 (.slice a n n) (some (.int .i64 (k : Nat))) none none).run Tryd.prog W = .ok (.slice (wcutA a n k) (n - k) (n - k)) W) ∧
    (∀ W : World, (Instr.sliceAt 25 (.slice a n n) (some (.int .i64 (k : Nat))) none none).run Tryd.prog W = .ok (.slice (wcutA a n k) (n - k) (n - k)) W) := by
  have hel : Tryd.prog.elem 25 = 5 := by unfold Program.elem; rw [Tryd.underlying25]
  have hr : ∀ W : World, (Instr.slice 25 (.slice a n n) (some (.int .i64 (k : Nat))) none none).run Tryd.prog W = .ok (.slice (wcutA a n k) (n - k) (n - k)) W := fun W => by
    rw [run_slice_l W 25 a n n typ_bytes .i64 k (by omega) (by omega), hel]
    have hsz : (sizeOf 5).run Tryd.prog W = .ok 1 W := by simp [sizeOf]; rfl
    rw [hsz]
    simp only [Result.andThen, sliced, Int.toNat_natCast, Nat.mul_one, wcutA]
  exact ⟨hr, fun W => by rw [run_sliceAt_slice W _ _ _ _ _ typ_bytes]; exact hr W⟩
theorem head_run {h : Nat} (h1 : h ≤ c) : (∀ W : World, (Instr.slice 25 (.slice a n c) none (some (.int .i64 (h : Nat))) none).run Tryd.prog W = .ok (.slice a h c) W) ∧
    (∀ W : World, (Instr.sliceAt 25 (.slice a n c) none (some (.int .i64 (h : Nat))) none).run Tryd.prog W = .ok (.slice a h c) W) := by
  have hel : Tryd.prog.elem 25 = 5 := by unfold Program.elem; rw [Tryd.underlying25]
  have hr : ∀ W : World, (Instr.slice 25 (.slice a n c) none (some (.int .i64 (h : Nat))) none).run Tryd.prog W = .ok (.slice a h c) W := fun W => by
    rw [run_slice_h W 25 a n c typ_bytes .i64 h (by omega) (by omega), hel]
    have hsz : (sizeOf 5).run Tryd.prog W = .ok 1 W := by simp [sizeOf]; rfl
    rw [hsz]
    simp only [Result.andThen, sliced, Int.toNat_natCast, Nat.mul_one, Nat.sub_zero]
    by_cases e : c = 0
    · rw [if_pos e]
    · rw [if_neg e]; cases a <;> simp [Addr.add]
  exact ⟨hr, fun W => by rw [run_sliceAt_slice W _ _ _ _ _ typ_bytes]; exact hr W⟩
end
end Go.Proofs.YtobgmbfoofkdeaaDoor

namespace Go.Proofs.YtobgmbfoofkdeaaDoor
open Go.RowKit Go.Shelf Go.Lib

/-- What TakeNum tells of bytes. -/
def TookNum (a : Option Addr) (n : Nat) (bs : List UInt8) (e : Ending) : Prop :=
  (∃ (x : Int) (k : Nat), Reads bs x k ∧ e = .returned (.tuple #[.int .i64 x, .slice (wcutA a n k) (n - k) (n - k), .int .i64 0])) ∨ (NoNum bs ∧ e = .returned (.tuple #[.int .i64 0, .slice none 0 0, .int .i64 30]))

set_option maxRecDepth 100000 in
set_option maxHeartbeats 2000000 in
theorem takeNum_any (a : Option Addr) (n c : Nat) (bs : List UInt8) (w : World) (h : Bytes w (.slice a n c) bs) (hl : n ≤ 1048576) : Calls Tryd.prog 69 #[.slice a n c] w fun e w' => TookNum a n bs e ∧ Below w.heap.size w w' := by
  obtain ⟨hbl, hnc⟩ := bytes_len h
  obtain ⟨m, hm⟩ : ∃ m, m = min n 10 := ⟨_, rfl⟩
  have hmm : min (n : Int) 10 = ((m : Nat) : Int) := by omega
  have hm10 : m ≤ 10 := by omega
  have hmn : m ≤ n := by omega
  have hbm := h.take (m := m) hmn hbl
  obtain ⟨q, q'⟩ := head_run (a := a) (n := n) (c := c) (h := m) (by omega)
  have HH := hide h
  have HBL := hide hbl
  have HBM := hide hbm
  have HM := hide hm
  have hml : (bs.take m).length = m := by rw [List.length_take]; omega
  have HML := hide hml
  have HNC := hide hnc
  have HL := hide hl
  clear h hbl hbm hm hml hl
  go_enter Tryd.func69, Tryd.ntmps69
  go_wp2_with (refine wpList_min2 rfl (.tmp 10) (.const (.int .i64 10)) 3 3 rfl _ _ _ _ rfl rfl ?_; rw [hmm])
  go_wp2_with fail
  refine (indexFunc_any (.slice a m c) (bs.take m) _ (unhide HBM) (by have := unhide HML; omega)).mono ?_
  rintro e w1 ⟨⟨i, hi, rfl⟩, hw⟩
  rw [hw]
  clear hw w1
  rcases hi with ⟨p, y, r, he, hp, hy, rfl⟩ | ⟨hH, rfl⟩
  · obtain ⟨k, hk⟩ : ∃ k, k = p.length + 1 := ⟨_, rfl⟩
    have hkm : k ≤ m := by have h1 := congrArg List.length he; rw [unhide HML] at h1; simp at h1; omega
    have hbs : bs = p ++ y :: (r ++ bs.drop m) := by
      have h1 := List.take_append_drop m bs
      rw [he] at h1
      exact h1.symm.trans (by simp)
    have htk : bs.take k = p ++ [y] := by
      rw [hbs, hk, show p ++ y :: (r ++ bs.drop m) = (p ++ [y]) ++ (r ++ bs.drop m) by simp]
      exact List.take_left' (by simp)
    have HP := hide hp
    have HY := hide hy
    have HBS := hide hbs
    have HTK := hide htk
    have HKL : Hid ((bs.take k).length = k) := by show _ = _; rw [htk, hk]; simp
    have hbk := (unhide HH).take (m := k) (by omega) (unhide HBL)
    have HBK := hide hbk
    obtain ⟨q1, q1'⟩ := head_run (a := a) (n := n) (c := c) (h := k) (by omega)
    have hk1 : ((p.length : Nat) : Int) + 1 = ((k : Nat) : Int) := by omega
    have hk0 : ((k : Nat) : Int) ≠ 0 := by omega
    have hkn : ((k : Nat) : Int) ≤ (c : Nat) := by omega
    have HK := hide hk
    clear he hp hy hbs htk hbk hk
    have HJL := hide (jn_lt64 (bs.take k))
    have HIN := hide (unz_in (jn_lt64 (bs.take k)))
    have HTEN := hide (numB_ten (unz_in (jn_lt64 (bs.take k))))
    obtain ⟨wA, hwA⟩ : ∃ wA, wA = w.alloc (.cells #[.int .u8 0, .int .u8 0, .int .u8 0, .int .u8 0, .int .u8 0, .int .u8 0, .int .u8 0, .int .u8 0, .int .u8 0, .int .u8 0] 103) := ⟨_, rfl⟩
    have HR : Hid (Room w 103 w.heap.size 10 [] wA) := by
      rw [hwA]
      exact ⟨⟨_, heap_alloc_new w _, rfl, by simp⟩, by simp, by unfold maxLen; omega, Nat.le_refl _, (Below.refl _ w).alloc (Nat.le_refl _) _⟩
    have HWA := hide hwA
    clear hwA
    go_upto_region 4 with fail
    go_wp2_with fail
    refine (joined_any (.slice a k c) (bs.take k) _ (unhide HBK) (by have := unhide HKL; omega)).mono ?_
    rintro e w1 ⟨rfl, hw⟩
    rw [hw]
    clear hw w1
    go_wp2_with fail
    refine (unfolded_any _ (unhide HJL) _).mono ?_
    rintro e w1 ⟨rfl, hw⟩
    rw [hw]
    clear hw w1
    have HX : Hid (zz (unz (jn64 (bs.take k))) = jn64 (bs.take k)) := zz_unz _
    generalize unz (jn64 (bs.take k)) = x at *
    go_upto_region 6 with fail
    rw [← unhide HWA]
    have HLN : Hid (([] : List UInt8).length + (numB x).length ≤ 10) := by show _ ≤ _; simpa using unhide HTEN
    have hkn2 : k ≤ n := by omega
    obtain ⟨q2, q2'⟩ := cut_run (a := a) (n := n) (c := c) (k := k) hkn2 hnc
    by_cases hq : numB x = bs.take k
    · have hd : decide (numB x = bs.take k) = true := decide_eq_true hq
      have HQ := hide hq
      clear hq
      go_cut [29] (fun v wx => v = .bool false ∧ Below w.heap.size w wx)
      case first =>
        go_region_with (first
          | (go_at_call 64; refine (wPutNumber_any w _ w.heap.size 10 [] x (unhide HIN) _ (by exact (unhide HR).drew) (unhide HLN) (by simp)).mono ?_; rintro e w2 ⟨rfl, hR2⟩)
          | (go_at_call 78; refine (bytesEqual_any _ _ (numB x) (bs.take k) _ (by simpa using hR2.bytes) ((unhide HBK).laterW (by exact hR2.bb))).mono ?_; rintro e w3 ⟨rfl, hw3⟩; rw [hw3]; clear hw3; rw [hd]))
        all_goals (
          have HBB := hide hR2.bb
          clear hR2 hd
          go_wp2_with fail
          go_meet
          exact ⟨rfl, unhide HBB⟩)
      obtain ⟨rfl, hb⟩ := hcut
      have HBB := hide hb
      clear hb hd
      go_upto_region 8 with fail
      go_quiet (fail)
      go_wp2_with fail
      go_ret3
      refine ⟨.inl ⟨x, k, ⟨unhide HIN, ?_, ?_⟩, rfl⟩, (unhide HBB).trans ((below_drewN _ _).mono (unhide HBB).size)⟩
      · rw [unhide HQ]; exact (unhide HKL).symm
      · rw [unhide HQ, List.take_append_drop]
    · have hd : decide (numB x = bs.take k) = false := decide_eq_false hq
      have HQ := hide hq
      clear hq
      go_cut [29] (fun v wx => v = .bool true ∧ Below w.heap.size w wx)
      case first =>
        go_region_with (first
          | (go_at_call 64; refine (wPutNumber_any w _ w.heap.size 10 [] x (unhide HIN) _ (by exact (unhide HR).drew) (unhide HLN) (by simp)).mono ?_; rintro e w2 ⟨rfl, hR2⟩)
          | (go_at_call 78; refine (bytesEqual_any _ _ (numB x) (bs.take k) _ (by simpa using hR2.bytes) ((unhide HBK).laterW (by exact hR2.bb))).mono ?_; rintro e w3 ⟨rfl, hw3⟩; rw [hw3]; clear hw3; rw [hd]))
        all_goals (
          have HBB := hide hR2.bb
          clear hR2 hd
          go_wp2_with fail
          go_meet
          exact ⟨rfl, unhide HBB⟩)
      obtain ⟨rfl, hb⟩ := hcut
      have HBB := hide hb
      clear hb hd
      go_wp2_with fail
      go_ret3
      refine ⟨.inr ⟨fun x' k' hr => ?_, rfl⟩, unhide HBB⟩
      obtain ⟨p', y', e1, e2, h3, h4, _, h5⟩ := hr.form
      obtain ⟨rfl, rfl, _⟩ := highs_same (unhide HP) h3 (unhide HY) h4 ((unhide HBS).symm.trans e1)
      apply unhide HQ
      have hz := unhide HX
      rw [unhide HTK, h5] at hz ⊢
      have h6 : jn64 (numB x') = zz x' := by
        unfold jn64 numB
        rw [val_grp]
        exact Nat.mod_eq_of_lt (zz_lt hr.inr)
      rw [h6] at hz
      rw [zz_inj hz]
  · have HHI := hide hH
    clear hH
    go_wp2
    go_ret3
    refine ⟨.inr ⟨?_, rfl⟩, Below.refl _ _⟩
    exact noNum_highs (unhide HHI) (by have := unhide HM; have := unhide HBL; omega)
end Go.Proofs.YtobgmbfoofkdeaaDoor

namespace Go.Proofs.YtobgmbfoofkdeaaDoor
open Go.RowKit

theorem wpList_want {P : Program} {ops : Array Oper} {Q : Exit → Act → World → Prop} {a : Act} {w : World} {rest : List Oper} {o : Oper} (hw : Region.wanted o (yielded ops a.tmps) = true)
    (h : ∀ K : Act → World → Prop, (∀ a w, wpList P ops Q rest a w → K a w) → o.wp P a w K Q) : wpList P ops Q (o :: rest) a w :=
  wpList_step fun K hK => by rw [if_pos hw]; exact h K hK

theorem wpList_append_bytes_w {P : Program} (w : World) {ops : Array Oper} {rest : List Oper} {op : Oper} {a : Act} {Q : Exit → Act → World → Prop}
    (hg : Region.wanted op (yielded ops a.tmps) = true) (s x : Operand) (t : TypeId) (hop : op.op = Op.call { callee := Callee.builtin Builtin.append, args := #[s, x], argTypes := #[t, t] })
    (e : TypeId) (i : TypeInfo) (z : Value) (ht : P.underlying t = some (.slice e)) (hi : P.info? e = some i) (hz : i.zero = some z) (hs : i.size = 1) (hb : i.bytes = 1) (hzs : z.cells.size = 1)
    (v : Value) (xs : List UInt8) (hsv : a.eval s = v) (hown : w.ownsRow 0 e 1 v xs.length (xs.map bv)) (u : Value) (bs : List UInt8) (hxu : a.eval x = u) (hu : Bytes w u bs) (hl : xs.length + bs.length ≤ 140737488355328)
    (hK : ∀ v' w', w'.ownsRow 0 e 1 v' (xs ++ bs).length ((xs ++ bs).map bv) → w.grownBy w' v.ownBlock → (v'.ownBlock = v.ownBlock ∨ ∃ k, v'.ownBlock = some k ∧ w.heap.size ≤ k) → wpList P ops Q rest (a.put op.dst v') w') :
    wpList P ops Q (op :: rest) a w := by
  refine wpList_want hg fun K hK' => ?_
  obtain ⟨v', w', hrun, r1, r2, r3⟩ := run_append_bytes (P := P) w t op.type e i z ht hi hz hs hb hzs v xs hown u bs hu hl
  unfold Oper.wp
  simp [execOp, hop, resolve, invoke, builtin, hsv, hxu, hrun, Result.andThen]
  exact hK' _ _ (hK v' w' r1 r2 r3)

/-- max of two numbers, in one way. -/
theorem wpList_max2_w {P : Program} {w : World} {ops : Array Oper} {rest : List Oper} {op : Oper} {a : Act} {Q : Exit → Act → World → Prop} (hgd : Region.wanted op (yielded ops a.tmps) = true) (x y : Operand) (t s : TypeId)
    (ho : op.op = .call { callee := .builtin .max, args := #[x, y], argTypes := #[t, s] }) (k k' : IntKind) (m n : Int) (hx : a.eval x = .int k m) (hy : a.eval y = .int k' n)
    (h : wpList P ops Q rest (a.put op.dst (.int k (max m n))) w) : wpList P ops Q (op :: rest) a w := by
  refine wpList_want hgd fun K hK => ?_
  have hrun : (Builtin.max_ #[t, s] op.type #[.int k m, .int k' n]).run P w = .ok (.int k (max m n)) w := by
    rw [run_max_int2]; congr 2; split <;> omega
  unfold Oper.wp
  simp [execOp, ho, resolve, invoke, builtin, hx, hy, hrun, Result.andThen]
  exact hK _ _ h
end Go.Proofs.YtobgmbfoofkdeaaDoor

namespace Go.Proofs.YtobgmbfoofkdeaaDoor
open Go.RowKit Go.Shelf Go.Lib

/-- min of two numbers, in one way, under a guard. -/
theorem wpList_min2_w {P : Program} {w : World} {ops : Array Oper} {rest : List Oper} {op : Oper} {a : Act} {Q : Exit → Act → World → Prop} (hgd : Region.wanted op (yielded ops a.tmps) = true) (x y : Operand) (t s : TypeId)
    (ho : op.op = .call { callee := .builtin .min, args := #[x, y], argTypes := #[t, s] }) (k k' : IntKind) (m n : Int) (hx : a.eval x = .int k m) (hy : a.eval y = .int k' n)
    (h : wpList P ops Q rest (a.put op.dst (.int k (min m n))) w) : wpList P ops Q (op :: rest) a w := by
  refine wpList_want hgd fun K hK => ?_
  have hrun : (Builtin.min_ #[t, s] op.type #[.int k m, .int k' n]).run P w = .ok (.int k (min m n)) w := by
    rw [run_min_int2]; congr 2; split <;> omega
  unfold Oper.wp
  simp [execOp, ho, resolve, invoke, builtin, hx, hy, hrun, Result.andThen]
  exact hK _ _ h

/-- What TakeText tells of bytes. -/
def TookText (a : Option Addr) (n : Nat) (bs : List UInt8) (most : Int) (e : Ending) : Prop :=
  (∃ (s : List UInt8) (k : Nat), ReadsT bs most s k ∧ e = .returned (.tuple #[.string ⟨s.toArray⟩, .slice (wcutA (wcutA a n k) (n - k) s.length) (n - k - s.length) (n - k - s.length), .int .i64 0])) ∨
  (NoText bs most ∧ e = .returned (.tuple #[.string ⟨#[]⟩, .slice none 0 0, .int .i64 30]))

set_option maxRecDepth 100000 in
set_option maxHeartbeats 2000000 in
theorem takeText_any (a : Option Addr) (n c : Nat) (bs : List UInt8) (most : Int) (w : World) (h : Bytes w (.slice a n c) bs) (hl : n ≤ 1048576) (hmost : InR most) : Calls Tryd.prog 70 #[.slice a n c, .int .i64 most] w fun e w' => TookText a n bs most e ∧ Below w.heap.size w w' := by
  obtain ⟨hbl, hnc⟩ := bytes_len h
  have HH := hide h
  have HBL := hide hbl
  have HL := hide hl
  have HMO := hide hmost
  clear h hbl hnc hl hmost
  go_enter Tryd.func70, Tryd.ntmps70
  go_wp2_with fail
  refine (takeNum_any a n c bs _ (unhide HH) (unhide HL)).mono ?_
  rintro e w1 ⟨ht, hb1⟩
  have HB1 := hide hb1
  clear hb1
  rcases ht with ⟨x, k, hr, rfl⟩ | ⟨hN, rfl⟩
  · have HR := hide hr
    have hkn := hr.le
    rw [unhide HBL] at hkn
    have hk0 := hr.pos
    obtain ⟨hx1, hx2⟩ := hr.inr
    have HC := hide (((unhide HH).cut hkn).laterW (unhide HB1))
    have hBS : (bs.drop k).length = n - k := by rw [List.length_drop, unhide HBL]
    have HBS := hide hBS
    obtain ⟨l, hlk⟩ : ∃ l, l = n - k := ⟨_, rfl⟩
    rw [← hlk] at HC HBS
    have HLK := hide hlk
    have hl20 : l ≤ 1048576 := by have := unhide HL; omega
    obtain ⟨aa, haa⟩ : ∃ aa, aa = wcutA a n k := ⟨_, rfl⟩
    rw [← haa] at HC
    have HAA := hide haa
    rw [← unhide HLK, ← haa]
    clear hr hkn hk0 hBS hlk haa
    by_cases hneg : x < 0
    · have hneg' : decide (x < 0) = true := decide_eq_true hneg
      go_wp2_with fail
      go_ret3
      refine ⟨.inr ⟨?_, rfl⟩, unhide HB1⟩
      exact noText_of (unhide HR) (.inl (by omega))
    · have hneg' : decide (x < 0) = false := decide_eq_false hneg
      obtain ⟨y, hy⟩ : ∃ y, y = min most ((l : Nat) : Int) := ⟨_, rfl⟩
      have HY := hide hy
      by_cases hgt : x > y
      · have hgt' : decide (x > y) = true := decide_eq_true hgt
        clear hy
        go_wp2_with (refine wpList_min2_w (by simp [Region.wanted, yielded]) (.tmp 23) (.tmp 25) 3 3 rfl _ _ _ _ rfl rfl ?_; rw [← unhide HY])
        go_wp2_with fail
        go_ret3
        refine ⟨.inr ⟨?_, rfl⟩, unhide HB1⟩
        refine noText_of (unhide HR) (.inr ?_)
        have := unhide HBL
        have := unhide HY
        have := unhide HLK
        have h3 := (unhide HR).le
        omega
      · have hgt' : decide (x > y) = false := decide_eq_false hgt
        obtain ⟨z, hz⟩ : ∃ z : Nat, x = ((z : Nat) : Int) := ⟨x.toNat, by omega⟩
        subst hz
        have hzl : z ≤ l := by omega
        have hzm : ((z : Nat) : Int) ≤ most := by omega
        have HZM := hide hzm
        have HZL := hide hzl
        obtain ⟨q1, q1'⟩ := head_run (a := aa) (n := l) (c := l) (h := z) hzl
        obtain ⟨q2, q2'⟩ := wcutL_run (a := aa) (n := l) (k := z) hzl
        have hbt := (unhide HC).take (m := z) hzl (unhide HBS)
        have cv : ∀ W : World, Below w1.heap.size w1 W → (convert 25 9 (.slice aa z l)).run Tryd.prog W = .ok (.string ⟨((bs.drop k).take z).toArray⟩) W := fun W hb =>
          run_convert_bytes (P := Tryd.prog) W 25 9 5 Tryd.underlying25 Tryd.underlying5 Tryd.underlying9 _ _ (hbt.laterW hb)
        have CV := hide cv
        have HRT : Hid (ReadsT bs most ((bs.drop k).take z) k) := by
          have := readsT_of (unhide HR) (by omega) hzm (by have := unhide HBL; have := unhide HLK; have h3 := (unhide HR).le; omega)
          rwa [Int.toNat_natCast] at this
        have HTL : Hid (((bs.drop k).take z).length = z) := by show _ = _; rw [List.length_take, unhide HBS]; omega
        generalize (bs.drop k).take z = t at *
        clear hy hbt cv
        go_upto_region 4 with fail
        go_wp2_with (refine wpList_min2_w (by simp [Region.wanted, yielded]) (.tmp 23) (.tmp 25) 3 3 rfl _ _ _ _ rfl rfl ?_; rw [← unhide HY])
        go_upto_region 6 with fail
        have cvn : ∀ j, (convert 25 9 (.slice aa z l)).run Tryd.prog (w1.drewN j) = .ok (.string ⟨t.toArray⟩) (w1.drewN j) := fun j => unhide CV _ (below_drewN _ _)
        generalize hB : (⟨t.toArray⟩ : ByteArray) = st at *
        clear hneg hneg' hgt hgt' hzl hzm
        go_quiet (fail)
        go_wp2_with fail
        go_ret3
        refine ⟨.inl ⟨t, k, unhide HRT, ?_⟩, (unhide HB1).trans ((below_drewN _ _).mono (unhide HB1).size)⟩
        rw [unhide HTL, ← unhide HLK, ← unhide HAA, hB]
        rfl
  · go_wp2_with fail
    go_ret3
    exact ⟨.inr ⟨noText_of_noNum hN, rfl⟩, unhide HB1⟩
end Go.Proofs.YtobgmbfoofkdeaaDoor

namespace Go.Proofs.YtobgmbfoofkdeaaDoor
open Go.RowKit

/-- What a reader leaves by. -/
def left30 : List PanicEntry := [{ v := .iface 28 (.int .i64 30), recovered := false }]
theorem need_any (so : Bool) (w : World) : Calls Tryd.prog 57 #[.bool so] w fun e w' => e = (if so then .returned (.tuple #[]) else .panicked left30) ∧ w' = w := by
  cases so with
  | true =>
    go_enter Tryd.func57, Tryd.ntmps57
    go_wp2
    go_end0
    exact ⟨rfl, rfl⟩
  | false =>
    go_enter Tryd.func57, Tryd.ntmps57
    go_wp2
    exact ⟨rfl, rfl, rfl⟩

/-- But for the block g, and new ones, the world is as it was. -/
structure But (g : Nat) (W W' : World) : Prop where
  os : W'.os = W.os
  tape : W'.tape = W.tape
  output : W'.output = W.output
  size : W.heap.size ≤ W'.heap.size
  block : ∀ k, k < W.heap.size → k ≠ g → W'.heap[k]? = W.heap[k]?
theorem But.of {g : Nat} {W W' : World} (h : Below W.heap.size W W') : But g W W' := ⟨h.os, h.tape, h.output, h.size, fun k hk _ => h.block k hk⟩
theorem But.trans {g : Nat} {W W' W'' : World} (h : But g W W') (h' : But g W' W'') : But g W W'' :=
  ⟨h'.os.trans h.os, h'.tape.trans h.tape, h'.output.trans h.output, Nat.le_trans h.size h'.size, fun k hk hn => (h'.block k (Nat.lt_of_lt_of_le hk h.size) hn).trans (h.block k hk hn)⟩
theorem But.set {g : Nat} {W W' : World} (h : But g W W') (o : Nat) (v : Value) : But g W (W'.setCell ⟨g, o, none⟩ v) := by
  have b := (Below.refl 0 W').setCell (p := ⟨g, o, none⟩) (Nat.zero_le _) v
  exact ⟨b.os.trans h.os, b.tape.trans h.tape, b.output.trans h.output, by rw [World.size_setCell]; exact h.size, fun k hk hn => (Below.heap_setCell _ _ _ _ hn).trans (h.block k hk hn)⟩
theorem But.below {g : Nat} {w0 W W' : World} (h : But g W W') (hb : Below w0.heap.size w0 W) (hg : w0.heap.size ≤ g) : Below w0.heap.size w0 W' :=
  ⟨h.os.trans hb.os, h.tape.trans hb.tape, h.output.trans hb.output, Nat.le_trans hb.size h.size, fun k hk => (h.block k (Nat.lt_of_lt_of_le hk hb.size) (by omega)).trans (hb.block k hk)⟩

/-- A reader in the block g: what is left, in the world w0, and how many parts there were. -/
structure Rdr (w0 : World) (g : Nat) (a : Option Addr) (n c p : Nat) (bs : List UInt8) (W : World) : Prop where
  below : Below w0.heap.size w0 W
  new : w0.heap.size ≤ g
  blk : W.heap[g]? = some (.cells #[.slice a n c, .int .i64 ((p : Nat) : Int)] 67 (0, 0))
  bytes : Bytes w0 (.slice a n c) bs
  len : n ≤ 1048576
theorem Rdr.later {w0 W W' : World} {g n c p : Nat} {a : Option Addr} {bs : List UInt8} (h : Rdr w0 g a n c p bs W) (hb : Below W.heap.size W W') : Rdr w0 g a n c p bs W' :=
  ⟨h.below.trans (hb.mono h.below.size), h.new, (hb.block _ (lt_rowV h.blk)).trans h.blk, h.bytes, h.len⟩
theorem Rdr.at {w0 W : World} {g n c p : Nat} {a : Option Addr} {bs : List UInt8} (h : Rdr w0 g a n c p bs W) : Bytes W (.slice a n c) bs := h.bytes.kept fun k _ hk => h.below.block k hk
theorem Rdr.cells {w0 W : World} {g n c p : Nat} {a : Option Addr} {bs : List UInt8} (h : Rdr w0 g a n c p bs W) : W.cell? ⟨g, 0, none⟩ = some (.slice a n c) ∧ W.cell? ⟨g, 1, none⟩ = some (.int .i64 ((p : Nat) : Int)) ∧ W.frozen? ⟨g, 0, none⟩ = false ∧ W.frozen? ⟨g, 1, none⟩ = false :=
  ⟨cell_of_row _ _ 0 _ _ _ h.blk, cell_of_row _ _ 1 _ _ _ h.blk, frozen_of_row _ _ _ _ _ h.blk, frozen_of_row _ _ _ _ _ h.blk⟩
/-- What is left behind k bytes. -/
theorem Rdr.cut {w0 W : World} {g n c p k : Nat} {a : Option Addr} {bs : List UInt8} (h : Rdr w0 g a n c p bs W) (hk : k ≤ n) : Rdr w0 g (wcutA a n k) (n - k) (n - k) p (bs.drop k) (W.setCell ⟨g, 0, none⟩ (.slice (wcutA a n k) (n - k) (n - k))) :=
  ⟨h.below.setCell (p := ⟨g, 0, none⟩) h.new _, h.new, heap_setCell_same _ _ _ _ _ _ h.blk, h.bytes.cut hk, by have := h.len; omega⟩

theorem Rdr.cut2 {w0 W : World} {g n c p k m : Nat} {a : Option Addr} {bs : List UInt8} (h : Rdr w0 g a n c p bs W) (hk : k + m ≤ n) : Rdr w0 g (wcutA (wcutA a n k) (n - k) m) (n - k - m) (n - k - m) p (bs.drop (k + m)) (W.setCell ⟨g, 0, none⟩ (.slice (wcutA (wcutA a n k) (n - k) m) (n - k - m) (n - k - m))) :=
  ⟨h.below.setCell (p := ⟨g, 0, none⟩) h.new _, h.new, heap_setCell_same _ _ _ _ _ _ h.blk, by rw [← List.drop_drop]; exact (h.bytes.cut (by omega)).cut (by omega), by have := h.len; omega⟩

set_option maxRecDepth 100000 in
set_option maxHeartbeats 1000000 in
theorem rNumber_any (w0 : World) (g n c p : Nat) (a : Option Addr) (bs : List UInt8) (w : World) (h : Rdr w0 g a n c p bs w) : Calls Tryd.prog 58 #[.pointer (some ⟨g, 0, none⟩)] w fun e W => But g w W ∧
    ((∃ (x : Int) (k : Nat), Reads bs x k ∧ e = .returned (.int .i64 x) ∧ Rdr w0 g (wcutA a n k) (n - k) (n - k) p (bs.drop k) W) ∨ (NoNum bs ∧ e = .panicked left30)) := by
  obtain ⟨c0, c1, f0, f1⟩ := h.cells
  have HR := hide h
  clear h
  go_enter Tryd.func58, Tryd.ntmps58
  go_wp2_with fail
  refine (takeNum_any a n c bs _ (unhide HR).at (unhide HR).len).mono ?_
  rintro e w1 ⟨ht, hb1⟩
  have HR1 := hide ((unhide HR).later hb1)
  have HU1 : Hid (But g w w1) := But.of hb1
  clear hb1 c0 c1 f0 f1
  obtain ⟨c0, c1, f0, f1⟩ := (unhide HR1).cells
  rcases ht with ⟨x, k, hr, rfl⟩ | ⟨hNo, rfl⟩
  · have hkn : k ≤ n := by have h1 := hr.le; obtain ⟨hbl, -⟩ := bytes_len (unhide HR).bytes; omega
    have HRD := hide hr
    have HR2 := hide ((unhide HR1).cut hkn)
    have HU2 := hide ((unhide HU1).set 0 (.slice (wcutA a n k) (n - k) (n - k)))
    clear hr hkn
    go_wp2_with fail
    refine (need_any true _).mono ?_
    rintro e w2 ⟨rfl, hw⟩
    rw [hw]
    clear hw w2
    go_wp2_with fail
    go_ret
    exact ⟨unhide HU2, .inl ⟨x, k, unhide HRD, rfl, unhide HR2⟩⟩
  · have HNO := hide hNo
    clear hNo
    go_wp2_with fail
    refine (need_any false _).mono ?_
    rintro e w2 ⟨rfl, hw⟩
    rw [hw]
    clear hw w2
    exact ⟨rfl, unhide HU1, .inr ⟨unhide HNO, rfl⟩⟩

set_option maxRecDepth 100000 in
set_option maxHeartbeats 1000000 in
theorem rText_any (w0 : World) (g n c p : Nat) (a : Option Addr) (bs : List UInt8) (w : World) (h : Rdr w0 g a n c p bs w) : Calls Tryd.prog 59 #[.pointer (some ⟨g, 0, none⟩)] w fun e W => But g w W ∧
    ((∃ (s : List UInt8) (k : Nat) (a' : Option Addr) (n' : Nat), ReadsT bs 100 s k ∧ n' = n - k - s.length ∧ e = .returned (.string ⟨s.toArray⟩) ∧ Rdr w0 g a' n' n' p (bs.drop (k + s.length)) W) ∨ (NoText bs 100 ∧ e = .panicked left30)) := by
  obtain ⟨c0, c1, f0, f1⟩ := h.cells
  have HR := hide h
  clear h
  go_enter Tryd.func59, Tryd.ntmps59
  go_wp2_with fail
  refine (takeText_any a n c bs 100 _ (unhide HR).at (unhide HR).len (by unfold InR; omega)).mono ?_
  rintro e w1 ⟨ht, hb1⟩
  have HR1 := hide ((unhide HR).later hb1)
  have HU1 : Hid (But g w w1) := But.of hb1
  clear hb1 c0 c1 f0 f1
  obtain ⟨c0, c1, f0, f1⟩ := (unhide HR1).cells
  rcases ht with ⟨s, k, hr, rfl⟩ | ⟨hNo, rfl⟩
  · have hkn : k + s.length ≤ n := by have h1 := hr.le; obtain ⟨hbl, -⟩ := bytes_len (unhide HR).bytes; omega
    have HRD := hide hr
    obtain ⟨a', ha'⟩ : ∃ a', a' = wcutA (wcutA a n k) (n - k) s.length := ⟨_, rfl⟩
    obtain ⟨n', hn'⟩ : ∃ n', n' = n - k - s.length := ⟨_, rfl⟩
    have HR2 := hide ((unhide HR1).cut2 hkn)
    have HU2 := hide ((unhide HU1).set 0 (.slice (wcutA (wcutA a n k) (n - k) s.length) (n - k - s.length) (n - k - s.length)))
    rw [← ha', ← hn'] at HR2 HU2 ⊢
    have HNE := hide hn'
    clear hr hkn ha' hn'
    go_wp2_with fail
    refine (need_any true _).mono ?_
    rintro e w2 ⟨rfl, hw⟩
    rw [hw]
    clear hw w2
    go_wp2_with fail
    go_ret
    exact ⟨unhide HU2, .inl ⟨s, k, _, _, unhide HRD, unhide HNE, rfl, unhide HR2⟩⟩
  · have HNO := hide hNo
    clear hNo
    go_wp2_with fail
    refine (need_any false _).mono ?_
    rintro e w2 ⟨rfl, hw⟩
    rw [hw]
    clear hw w2
    exact ⟨rfl, unhide HU1, .inr ⟨unhide HNO, rfl⟩⟩
end Go.Proofs.YtobgmbfoofkdeaaDoor

namespace Go.Proofs.YtobgmbfoofkdeaaDoor

/-- No value of at most q parts, no deeper than d. -/
def NoV (b : List UInt8) (d q : Nat) : Prop := ∀ v j, VReads b d v j → q < v.parts
theorem NoVal.noV {b : List UInt8} {d q : Nat} (h : NoVal b d) : NoV b d q := fun v j hr => absurd hr (h v j)
theorem NoV.noVal {b : List UInt8} {d : Nat} (h : NoV b d 200) : NoVal b d := fun v j hr => by have := h v j hr; have := hr.parts; omega
theorem noV_none {b : List UInt8} {d q : Nat} (h : q = 0) : NoV b d q := fun v j _ => by have := v.parts_pos; omega
/-- No list of at most q parts. -/
def NoL (b : List UInt8) (d q : Nat) : Prop := ∀ (l : List VD) (i j : Nat), Reads b ((l.length : Nat) : Int) i → l.length ≤ 40 → Listed b d i l j → VD.partsL l ≤ q → False
theorem noL_num {b : List UInt8} {d q : Nat} (h : NoNum b) : NoL b d q := fun _ _ _ hr _ _ _ => h _ _ hr
theorem noL_count {b : List UInt8} {d q i : Nat} {n : Int} (h : Reads b n i) (hn : n < 0 ∨ 40 < n) : NoL b d q := fun l _ _ hr hl _ _ => by
  obtain ⟨e, _⟩ := h.same hr
  omega
theorem noL_next {b : List UInt8} {d Q i a1 n : Nat} {q : List VD} (h : Reads b ((n : Nat) : Int) i) (hL : Listed b d i q a1) (hq : q.length < n) (hQ : Q ≤ 200) (hN : NoV (b.drop a1) d (Q - VD.partsL q)) : NoL b d Q := fun l i' j hr hl hL' hp => by
  obtain ⟨e, rfl⟩ := h.same hr
  have hln : n = l.length := by omega
  obtain ⟨p, rfl, hp2⟩ := hL.begin (r := b.drop j) hL'.kinds (by omega) hL'.eq
  match p, hp2, hln with
  | [], _, hln => simp at hln; omega
  | x :: p, hp2, _ =>
    simp only [VD.bytesL, List.append_assoc] at hp2
    have hxm : x ∈ q ++ x :: p := by simp
    rw [VD.partsL_append] at hp
    simp only [VD.partsL] at hp
    have := hN _ _ (VReads.of (hL'.kinds x hxm) (hL'.deep x hxm) (by omega) (hL'.fits x hxm) hp2)
    omega
/-- What a list's bytes are, behind its kind. -/
theorem VReads.list2 {b : List UInt8} {d k j : Nat} {v : VD} (hr : VReads b (d + 1) v j) (h : Reads b 2 k) : ∃ l i j', v = .mk 2 0 [] l ∧ Reads (b.drop k) ((l.length : Nat) : Int) i ∧ l.length ≤ 40 ∧ Listed (b.drop k) d i l j' := by
  obtain ⟨h1, h2⟩ := hr.behind h
  simp only [List.append_nil] at h2
  have hd := hr.deep
  have hf := hr.fits
  rcases VD.kinds_cases hr.kinds with ⟨n', rfl⟩ | ⟨s, rfl, hs⟩ | ⟨l, rfl, hl, hk⟩
  · simp [VD.k] at h1
  · simp [VD.k] at h1
  · have e : (VD.bytes (.mk 2 0 [] l)).drop k = numB ((l.length : Nat) : Int) ++ VD.bytesL l := by
      have e : VD.bytes (.mk 2 0 [] l) = numB ((2 : Nat) : Int) ++ (numB ((l.length : Nat) : Int) ++ VD.bytesL l) := rfl
      rw [e, h.len]; exact drop_numB
    rw [e, List.append_assoc] at h2
    have h3 := Reads.of (r := VD.bytesL l ++ b.drop j) (n := ((l.length : Nat) : Int)) (by unfold InR; omega) h2
    rw [VD.deep_mk] at hd
    refine ⟨l, _, _, rfl, h3, hl, ⟨hk, fun x hx => ?_, fun x hx => hf.mem hx, ?_, rfl⟩⟩
    · have := VD.deep_mem hx
      simp only [VD.l] at hd
      omega
    · rw [← List.drop_drop, h2, drop_numB, List.drop_left' rfl]
theorem noV_list {b : List UInt8} {d k q : Nat} (h : Reads b 2 k) (hN : NoL (b.drop k) d q) : NoV b (d + 1) (q + 1) := fun v j hr => by
  obtain ⟨l, i, j', rfl, h1, h2, h3⟩ := hr.list2 h
  rw [VD.parts_mk]
  simp only [VD.l]
  rcases Nat.lt_or_ge q (VD.partsL l) with h4 | h4
  · omega
  · exact absurd h4 fun h4 => hN l i j' h1 h2 h3 h4
theorem Listed.shift {b : List UInt8} {d k i j : Nat} {l : List VD} (h : Listed (b.drop k) d i l j) : Listed b d (k + i) l (k + j) :=
  ⟨h.kinds, h.deep, h.fits, by rw [← List.drop_drop, ← List.drop_drop]; exact h.eq, by have := h.len; omega⟩
theorem vreads_list2 {b : List UInt8} {d k i j : Nat} {l : List VD} (h : Reads b 2 k) (ht : Reads (b.drop k) ((l.length : Nat) : Int) i) (hL : Listed (b.drop k) d i l j) (hl : l.length ≤ 40) (hp : VD.partsL l + 1 ≤ 200) : VReads b (d + 1) (.mk 2 0 [] l) (k + j) :=
  vreads_list h ht hL.shift hl hp
end Go.Proofs.YtobgmbfoofkdeaaDoor
