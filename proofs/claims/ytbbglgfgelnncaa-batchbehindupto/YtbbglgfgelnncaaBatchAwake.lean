/- The statements' own examples (awake), over BatchOk. No statement of the seat is proved here. -/
import Derived.Test.YtbbglgfgelnncaaBatchOk
import Derived.Test.YtbbglgfgelnncaaRecImplPut
import Derived.Test.YtbbglgfgelnncaaGenWant
namespace Go.Proofs.Ytbbglgfgelnncaa
open Go.RowKit

section
variable (hc : BatchOk) (a : Option Addr) (n c : Nat) (w : World)
include hc
theorem ex_bput (u : Value) (h : RowsAt w u exRows) : Calls Try.prog 11 #[u] w fun e w' => ∃ va ca, e = .returned (.tuple #[.slice va 22 ca, .int .i64 0]) ∧ Bytes w' (.slice va 22 ca) exB4 ∧ Below w.heap.size w w' := by
  refine (hc.put u exRows w h (fun r hr _ => by have : r = [97, 98] := by simpa [exRows] using hr
                                                rw [this]; decide)).mono ?_
  rintro e w' ⟨v, rfl, hb, hbb, _⟩
  rw [exB4_of] at hb
  obtain ⟨va, ca, rfl, _⟩ := hb.form
  rw [exB4_len] at hb
  exact ⟨va, ca, by rw [exB4_err, exB4_len], hb, hbb⟩
theorem ex_s1 (h : Bytes w (.slice a n c) exB4) : Calls Try.prog 26 #[.slice a n c, .int .i64 1, .int .i64 22, .int .i64 0] w fun e w' => e = .returned (.bool true) ∧ Below w.heap.size w w' :=
  scanned_any hc a n c exB4 [exRows] 22 0 w h (by have := (bytes_len h).1; rw [exB4_len] at this; omega) ex_whole
theorem ex_s2 (h : Bytes w (.slice a n c) (exB4.take 21)) : Calls Try.prog 26 #[.slice a n c, .int .i64 0, .int .i64 0, .int .i64 32] w fun e w' => e = .returned (.bool true) ∧ Below w.heap.size w w' :=
  scanned_any hc a n c (exB4.take 21) [] 0 32 w h (by have := (bytes_len h).1; rw [List.length_take, exB4_len] at this; omega) ex_torn
theorem ex_s3 (h : Bytes w (.slice a n c) (exB4 ++ exB4 ++ [1])) : Calls Try.prog 26 #[.slice a n c, .int .i64 2, .int .i64 44, .int .i64 32] w fun e w' => e = .returned (.bool true) ∧ Below w.heap.size w w' :=
  scanned_any hc a n c (exB4 ++ exB4 ++ [1]) [exRows, exRows] 44 32 w h (by have := (bytes_len h).1; rw [List.length_append, List.length_append, exB4_len] at this; simp at this; omega) ex_twice
theorem ex_s4 (h : Bytes w (.slice a n c) exC) : Calls Try.prog 26 #[.slice a n c, .int .i64 0, .int .i64 0, .int .i64 34] w fun e w' => e = .returned (.bool true) ∧ Below w.heap.size w w' :=
  scanned_any hc a n c exC [] 0 34 w h (by have := (bytes_len h).1; rw [exC_len] at this; omega) ex_commit
theorem ex_cutnil : Calls Try.prog 20 #[.slice none 0 0] w fun e w' => ∃ g o lc va vc, e = .returned (.slice (some ⟨g, o, none⟩) 1 lc) ∧ w'.cell? ⟨g, o, none⟩ = some (.slice va 0 vc) ∧ Below w.heap.size w w' := by
  refine (hc.cut none 0 0 [] w (.inl ⟨rfl, rfl⟩) (by decide)).mono ?_
  rintro e w' ⟨v, rows, rfl, hC, hL, hb⟩
  obtain rfl := ex_cut hC
  obtain ⟨la, lc, rfl, _⟩ := hL.form
  obtain ⟨g, o, u, rfl, h1, h2⟩ := hL.at (i := 0) (x := []) rfl
  obtain ⟨va, vc, rfl, _⟩ := h2.1.form
  exact ⟨g, o, lc, va, vc, rfl, h1, hb⟩
end
theorem ex_rput (a : Option Addr) (n c : Nat) (w : World) (h : Bytes w (.slice a n c) [0, 0]) : Calls Try.prog 24 #[.agg #[.int .u8 2, .slice a n c]] w fun e w' => ∃ va ca, e = .returned (.tuple #[.slice va 11 ca, .int .i64 0]) ∧ Bytes w' (.slice va 11 ca) exC ∧ Below w.heap.size w w' := by
  refine (recPut_any (commit 0) a n c w h).mono ?_
  rintro e w' ⟨v, rfl, hb, hbb⟩
  have e0 := putErr_zero.2 (commit_right 0)
  rw [show putOf (commit 0) = exC from if_pos e0] at hb
  obtain ⟨va, ca, rfl, _⟩ := hb.form
  rw [exC_len] at hb
  exact ⟨va, ca, by rw [e0, exC_len], hb, hbb⟩

set_option maxRecDepth 100000 in
set_option maxHeartbeats 4000000 in
theorem awake_any (hc : BatchOk) (w : World) : Calls Try.prog 10 #[] w fun e w' => e = .returned (.bool true) ∧ Below w.heap.size w w' := by
  obtain ⟨ti, hti, hz0, hz1, hz2⟩ := infoByte
  have hcv := fun (W : World) (C : Array Value) (n c : Nat) => Lib.run_convert_bytes_const (P := Try.prog) W 23 5 C n c Try.underlying23 Try.underlying5
  have HR : Hid (RowsAt ((w.alloc (Obj.cells #[.int .u8 97, .int .u8 98] 5 (2, 3))).alloc (.cells #[.slice (some ⟨w.heap.size, 0, none⟩) 2 2] 23)) (.slice (some ⟨w.heap.size + 1, 0, none⟩) 1 1) exRows) := by
    refine .inr ⟨w.heap.size + 1, 0, 1, rfl, Nat.le_refl _, fun i x hx => ?_⟩
    match i, hx with
    | 0, hx =>
      cases hx
      refine ⟨.slice (some ⟨w.heap.size, 0, none⟩) 2 2, ?_, (bytes_block (bs := [97, 98]) (heap_alloc_new w _) rfl (by decide)).alloc _⟩
      have h := heap_alloc_new (w.alloc (Obj.cells #[.int .u8 97, .int .u8 98] 5 (2, 3))) (.cells #[.slice (some ⟨w.heap.size, 0, none⟩) 2 2] 23)
      rw [World.size_alloc] at h
      exact cell_of_row _ _ 0 _ _ _ h
  have HB0 : Hid (Below w.heap.size w ((w.alloc (Obj.cells #[.int .u8 97, .int .u8 98] 5 (2, 3))).alloc (.cells #[.slice (some ⟨w.heap.size, 0, none⟩) 2 2] 23))) := ((Below.refl _ w).alloc (Nat.le_refl _) _).alloc (by simp) _
  have HC := hide hc
  clear hc
  go_enter Try.func10, Try.ntmps10
  go_wp2_with fail
  refine (ex_bput (unhide HC) _ _ (unhide HR)).mono ?_
  rintro e w2 ⟨va, ca, rfl, hB, hb⟩
  have HB2 : Hid (Below w.heap.size w w2) := (unhide HB0).trans (hb.mono (unhide HB0).size)
  have H2 := hide hB
  clear hB hb HR HB0 hcv
  go_wp2_with fail
  refine (ex_rput _ _ _ _ (bytes_block (bs := [0, 0]) (heap_alloc_new w2 _) rfl (by decide))).mono ?_
  rintro e w3 ⟨vc, cc, rfl, hB, hb⟩
  have HB3 : Hid (Below w2.heap.size w2 w3) := ((Below.refl _ w2).alloc (Nat.le_refl _) _).trans (hb.mono (by simp))
  have H3 := hide ((unhide H2).later (unhide HB3))
  have HC3 := hide hB
  have HW3 := hide ((unhide HB2).trans ((unhide HB3).mono (unhide HB2).size))
  clear hB hb H2 HB2 HB3
  go_wp2_with fail
  refine (ex_cutnil (unhide HC) _).mono ?_
  rintro e w4 ⟨g, o, lc, za, zc, rfl, hcell, hb⟩
  have H4 := hide ((unhide H3).later hb)
  have HC4 := hide ((unhide HC3).later hb)
  have HW4 := hide ((unhide HW3).trans (hb.mono (unhide HW3).size))
  have HCE := hide hcell
  clear hcell hb H3 HC3 HW3
  obtain ⟨s21, k21, B21, q21, q21'⟩ := slice_to (h := 21) (unhide H4) (by omega)
  replace q21 : ∀ W : World, (Instr.slice 23 (.slice va 22 ca) none (some (.int .i64 21)) none).run Try.prog W = .ok (.slice s21 21 k21) W := fun W => q21 W
  replace q21' : ∀ W : World, (Instr.sliceAt 23 (.slice va 22 ca) none (some (.int .i64 21)) none).run Try.prog W = .ok (.slice s21 21 k21) W := fun W => q21' W
  have H21 := hide B21
  clear B21
  go_wp2_with fail
  refine (ex_s1 (unhide HC) _ _ _ _ (unhide H4)).mono ?_
  rintro e w5 ⟨rfl, hb5⟩
  have HB5 := hide hb5
  clear hb5
  go_wp2_with fail
  refine (ex_s2 (unhide HC) _ _ _ _ ((unhide H21).later (unhide HB5))).mono ?_
  rintro e w6 ⟨rfl, hb6⟩
  have HB6 : Hid (Below w4.heap.size w4 w6) := (unhide HB5).trans (hb6.mono (unhide HB5).size)
  clear hb6 HB5 H21 q21 q21'
  go_wp2_with fail
  refine (low_anew _ exB4 _ ((unhide H4).later (unhide HB6)) (by rw [exB4_len]; decide)).mono ?_
  rintro e w7 ⟨r7, rfl, hF⟩
  have HO7 := hide (hF.own (Below.refl _ w6))
  have HU7 := hide (((unhide H4).later (unhide HB6)).later hF.1.2.2)
  clear hF
  go_wp2_with (at_builtin; refine wpList_append_bytes_w _ (by simp [Region.wanted, yielded]) _ _ 23 rfl 5 ti (.int .u8 0) Try.underlying23 hti hz0 hz1 hz2 rfl _ exB4 rfl (unhide HO7).own _ exB4 rfl (unhide HU7) (by rw [exB4_len]; decide) ?_)
  rintro v8 w8 r1 r2 r3
  have HO8 : Hid (Own w6 v8 (exB4 ++ exB4) w8) := (unhide HO7).grown r1 r2 (by simpa using r3)
  clear r1 r2 r3 HO7 HU7
  have HO9 := hide ((unhide HO8).alloc (.cells #[.int .u8 1] 5))
  have HU9 := hide (bytes_one w8 1)
  clear HO8
  go_wp2_with (at_builtin; refine wpList_append_bytes_w _ (by simp [Region.wanted, yielded]) _ _ 23 rfl 5 ti (.int .u8 0) Try.underlying23 hti hz0 hz1 hz2 rfl _ (exB4 ++ exB4) rfl (unhide HO9).own _ [1] rfl (unhide HU9) (by rw [List.length_append, exB4_len]; decide) ?_)
  rintro v9 w9 r1 r2 r3
  have HO10 : Hid (Own w6 v9 (exB4 ++ exB4 ++ [1]) w9) := (unhide HO9).grown r1 r2 (by simpa using r3)
  clear r1 r2 r3 HO9 HU9
  obtain ⟨a9, c9, e9, _⟩ := (bytes_of_owns (unhide HO10).own).form
  obtain ⟨n9, hn9⟩ : ∃ n9, n9 = (exB4 ++ exB4 ++ [1]).length := ⟨_, rfl⟩
  rw [← hn9] at e9
  subst e9
  clear hn9
  have HB9 : Hid (Below w4.heap.size w4 w9) := (unhide HB6).trans ((unhide HO10).bb.mono (unhide HB6).size)
  go_wp2_with fail
  refine (ex_s3 (unhide HC) _ _ _ _ (bytes_of_owns (unhide HO10).own)).mono ?_
  rintro e w10 ⟨rfl, hb⟩
  have HB10 : Hid (Below w4.heap.size w4 w10) := (unhide HB9).trans (hb.mono (unhide HB9).size)
  clear hb HO10 HB9 HB6
  go_wp2_with fail
  refine (ex_s4 (unhide HC) _ _ _ _ ((unhide HC4).later (unhide HB10))).mono ?_
  rintro e w11 ⟨rfl, hb⟩
  have HB11 : Hid (Below w4.heap.size w4 w11) := (unhide HB10).trans (hb.mono (unhide HB10).size)
  clear hb HB10
  have ce : w11.cell? ⟨g, o, none⟩ = some (.slice za 0 zc) := ((unhide HB11).cell (p := ⟨g, o, none⟩) (World.block_lt_of_cell? _ _ (unhide HCE))).trans (unhide HCE)
  go_wp2_with fail
  go_ret
  exact ⟨rfl, (unhide HW4).trans ((unhide HB11).mono (unhide HW4).size)⟩
end Go.Proofs.Ytbbglgfgelnncaa
