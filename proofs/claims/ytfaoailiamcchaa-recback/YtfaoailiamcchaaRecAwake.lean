/- The chapter's examples, out of RecOk. No statement of the seat is proved here. -/
import Derived.Test.YtfaoailiamcchaaRecOk
import Derived.Test.YtfaoailiamcchaaLow2
namespace Go.Proofs.Ytfaoailiamcchaa
open Go.RowKit

theorem Kp.eq {w W W' : World} {L : List (Value × List UInt8)} {M : List (Nat × Array Value)} (h : Kp w W L M) (e : W' = W) : Kp w W' L M := by rw [e]; exact h

theorem ex_same (a1 a2 : Option Addr) (n1 c1 n2 c2 : Nat) (w : World) (h1 : Bytes w (.slice a1 n1 c1) [97, 98]) (h2 : Bytes w (.slice a2 n2 c2) [97, 98]) : Calls Try.prog 13 #[.agg #[.int .u8 1, .slice a1 n1 c1], .agg #[.int .u8 1, .slice a2 n2 c2]] w fun e w' => e = .returned (.bool true) ∧ Below w.heap.size w w' :=
  low_sameRec exR exR a1 a2 n1 c1 n2 c2 w h1 h2

section
variable (hc : RecOk) (a : Option Addr) (n c : Nat) (w : World)
include hc

theorem ex_put (h : Bytes w (.slice a n c) [97, 98]) : Calls Try.prog 10 #[.agg #[.int .u8 1, .slice a n c]] w fun e w' => ∃ va ca, e = .returned (.tuple #[.slice va 11 ca, .int .i64 0]) ∧ Bytes w' (.slice va 11 ca) exB ∧ Below w.heap.size w w' := by
  have hn := (bytes_len h).1
  refine (hc.put exR a n c w h (by simp at hn; omega)).mono ?_
  rintro e w' ⟨v, rfl, hb, hbb⟩
  rw [exR_of] at hb
  obtain ⟨va, ca, rfl, _⟩ := hb.form
  exact ⟨va, ca, by rw [exR_err]; rfl, hb, hbb⟩
theorem ex_take (h : Bytes w (.slice a n c) (exB ++ [7])) : Calls Try.prog 14 #[.slice a n c] w fun e w' => ∃ va n' ca, e = .returned (.tuple #[.agg #[.int .u8 1, .slice va n' ca], .int .i64 11, .int .i64 0]) ∧ Bytes w' (.slice va n' ca) [97, 98] ∧ Below w.heap.size w w' := by
  have hn := (bytes_len h).1
  refine (hc.take a n c _ w h (by rw [List.length_append, exB_len] at hn; simp at hn; omega)).mono ?_
  rintro e w' ⟨va, n', ca, rfl, hF⟩
  obtain ⟨e1, e2, e3⟩ := take_put exR exR_right [7]
  have e1 : takeErr (exB ++ [7]) = 0 := e1
  have e2 : takeLen (exB ++ [7]) = 11 := e2
  have e3 : takeRec (exB ++ [7]) = exR := e3
  rw [e3] at hF
  exact ⟨va, n', ca, by rw [e1, e2, e3]; rfl, hF.1.1, hF.1.2.2⟩
theorem ex_none (b : List UInt8) (x : Int) (hx : takeErr b = x) (h0 : x ≠ 0) (hl : n ≤ 1048576) (h : Bytes w (.slice a n c) b) : Calls Try.prog 14 #[.slice a n c] w fun e w' => ∃ va n' ca, e = .returned (.tuple #[.agg #[.int .u8 0, .slice va n' ca], .int .i64 0, .int .i64 x]) ∧ Below w.heap.size w w' := by
  refine (hc.take a n c _ w h hl).mono ?_
  rintro e w' ⟨va, n', ca, rfl, hF⟩
  have hne : ¬ takeErr b = 0 := by rw [hx]; exact h0
  have e1 : takeRec b = ⟨0, []⟩ := if_neg hne
  have e2 : takeLen b = 0 := if_neg hne
  exact ⟨va, n', ca, by rw [e1, e2, hx]; rfl, hF.1.2.2⟩
theorem ex_alls (h : Bytes w (.slice a n c) (exB ++ exB ++ [1, 2, 3])) : Calls Try.prog 16 #[.slice a n c] w fun e w' => ∃ va ca, e = .returned (.tuple #[.slice va 2 ca, .int .i64 22, .int .i64 32]) ∧ Below w.heap.size w w' := by
  have hn := (bytes_len h).1
  refine (hc.all a n c _ w h (by rw [List.length_append, List.length_append, exB_len] at hn; simp at hn; omega)).mono ?_
  rintro e w' ⟨v, rs, m, x, rfl, hA, hR, hb⟩
  obtain ⟨rfl, rfl, rfl⟩ := hA.same ex_all
  obtain ⟨va, ca, rfl, _⟩ := hR.form
  exact ⟨va, ca, rfl, hb⟩
end

set_option maxRecDepth 100000 in
set_option maxHeartbeats 8000000 in
theorem awake_any (hc : RecOk) (w : World) : Calls Try.prog 8 #[] w fun e w' => e = .returned (.bool true) ∧ Below w.heap.size w w' := by
  have HC := hide hc
  clear hc
  obtain ⟨ti, hti, hz0, hz1, hz2⟩ := infoByte
  have hcv := fun (W : World) (C : Array Value) (n c : Nat) => Lib.run_convert_bytes_const (P := Try.prog) W 22 5 C n c Try.underlying22 Try.underlying5
  go_enter Try.func8, Try.ntmps8
  go_upto_region 2 with fail
  have HK1 : Hid (Kp w ((w.alloc (Obj.cells #[.int .u8 97, .int .u8 98] 5 (2, 3))).alloc (.cells #[.int .u8 1, .slice (some ⟨w.heap.size, 0, none⟩) 2 2] 24)) [(.slice (some ⟨w.heap.size, 0, none⟩) 2 2, [97, 98])] [(w.heap.size + 1, #[.int .u8 1, .slice (some ⟨w.heap.size, 0, none⟩) 2 2])]) := by
    have h := (((Kp.start w).new (Obj.cells #[.int .u8 97, .int .u8 98] 5 (2, 3))).addB (bytes_block (bs := [97, 98]) (heap_alloc_new w _) rfl (by decide))).newC #[.int .u8 1, .slice (some ⟨w.heap.size, 0, none⟩) 2 2]
    rw [show (w.alloc (Obj.cells #[.int .u8 97, .int .u8 98] 5 (2, 3))).heap.size = w.heap.size + 1 from by simp] at h
    exact h
  generalize (w.alloc _).alloc _ = w1 at *
  generalize w.heap.size + 1 = g1 at *
  obtain ⟨ad, had⟩ : ∃ ad, ad = (⟨w.heap.size, 0, none⟩ : Addr) := ⟨_, rfl⟩
  rw [← had] at HK1 ⊢
  clear had
  have c0 : w1.cell? ⟨g1, 0, none⟩ = some (.int .u8 1) := cell_of_row _ _ 0 _ _ _ ((unhide HK1).ce _ (List.mem_cons_self ..))
  have c1 : w1.cell? ⟨g1, 1, none⟩ = some (.slice (some ad) 2 2) := cell_of_row _ _ 1 _ _ _ ((unhide HK1).ce _ (List.mem_cons_self ..))
  go_wp2_with fail
  refine (ex_put (unhide HC) _ _ _ _ ((unhide HK1).byt _ (List.mem_cons_self ..))).mono ?_
  rintro e w2 ⟨vb, cb, rfl, hB, hb⟩
  have HK2 := hide (((unhide HK1).later hb).addB hB)
  obtain ⟨s4, k4, B4, q4, q4', _⟩ := slice_mid (l := 4) (h := 9) hB (by omega) (by omega)
  replace q4 : ∀ W : World, (Instr.slice 22 (.slice vb 11 cb) (some (.int .i64 4)) (some (.int .i64 9)) none).run Try.prog W = .ok (.slice s4 5 k4) W := fun W => q4 W
  replace q4' : ∀ W : World, (Instr.sliceAt 22 (.slice vb 11 cb) (some (.int .i64 4)) (some (.int .i64 9)) none).run Try.prog W = .ok (.slice s4 5 k4) W := fun W => q4' W
  have H4 : Hid (Bytes w2 (.slice s4 5 k4) [1, 2, 0, 0, 0]) := by have h := B4; rw [exB_mid] at h; exact h
  clear hb hB B4 HK1 c0 c1
  go_wp2_with fail
  refine (low_same _ _ [1, 2, 0, 0, 0] [1, 2, 0, 0, 0] _ ((unhide H4).alloc _) (bytes_block (heap_alloc_new w2 _) rfl (by decide))).mono ?_
  rintro e w3 ⟨rfl, hw⟩
  have HK3 := hide (((unhide HK2).new _).eq hw)
  clear q4 q4' H4 HK2 hw
  rw [show decide ([1, 2, 0, 0, 0] = ([1, 2, 0, 0, 0] : List UInt8)) = true from rfl]
  go_wp2_with fail
  refine (low_anew _ exB _ ((unhide HK3).byt _ (List.mem_cons_self ..)) (by decide)).mono ?_
  rintro e w4 ⟨r4, rfl, hF⟩
  have HK4 := hide ((unhide HK3).later hF.1.2.2)
  have HO := hide ((hF.own (unhide HK3).bb).alloc (.cells #[.int .u8 7] 5))
  have HU := hide (bytes_one w4 7)
  have HK4' := hide ((unhide HK4).new (.cells #[.int .u8 7] 5))
  have HOf := hide ((hF.own (Below.refl _ w3)).alloc (.cells #[.int .u8 7] 5))
  clear hF HK4
  go_wp2_with (at_builtin; refine wpList_append_bytes _ rfl _ _ 22 rfl 5 ti (.int .u8 0) Try.underlying22 hti hz0 hz1 hz2 rfl _ exB rfl (unhide HOf).own _ [7] rfl (unhide HU) (by decide) ?_)
  rintro v5 w5 r1 r2 r3
  have HO5 : Hid (Own w3 v5 (exB ++ [7]) w5) := (unhide HOf).grown r1 r2 (by simpa using r3)
  have HK5 := hide ((unhide HK3).later (unhide HO5).bb)
  clear r1 r2 r3 HO HU HK4' HOf HK3
  obtain ⟨a5, c5, e5, _⟩ := (bytes_of_owns (unhide HO5).own).form
  subst e5
  go_wp2_with fail
  refine (ex_take (unhide HC) _ _ _ _ (bytes_of_owns (unhide HO5).own)).mono ?_
  rintro e w6 ⟨a6, n6, c6, rfl, hB, hb⟩
  have HK6 := hide ((((unhide HK5).later hb).addB hB).newC #[.int .u8 1, .slice a6 n6 c6])
  clear hB hb HK5 HO5
  go_upto_region 6 with fail
  generalize w6.alloc _ = w7 at *
  generalize w6.heap.size = g4 at *
  obtain ⟨s8, k8, B8, q8, q8'⟩ := slice_to (h := 8) ((unhide HK6).byt (.slice vb 11 cb, exB) (List.mem_cons_of_mem _ (List.mem_cons_self ..))) (by omega)
  replace q8 : ∀ W : World, (Instr.slice 22 (.slice vb 11 cb) none (some (.int .i64 8)) none).run Try.prog W = .ok (.slice s8 8 k8) W := fun W => q8 W
  replace q8' : ∀ W : World, (Instr.sliceAt 22 (.slice vb 11 cb) none (some (.int .i64 8)) none).run Try.prog W = .ok (.slice s8 8 k8) W := fun W => q8' W
  have HB8 := hide B8
  clear B8
  go_wp2_with fail
  refine (ex_none (unhide HC) _ _ _ _ (exB.take 8) 32 ex_t8 (by decide) (by omega) (unhide HB8)).mono ?_
  rintro e w8 ⟨ax8, nx8, cx8, rfl, hb⟩
  have HK7 := hide (((unhide HK6).later hb).new (.cells #[.int .u8 0, .slice ax8 nx8 cx8] 24))
  clear hb HB8 q8 q8' HK6
  go_upto_region 7 with fail
  generalize w8.alloc _ = w9 at *
  obtain ⟨s10, k10, B10, q10, q10'⟩ := slice_to (h := 10) ((unhide HK7).byt (.slice vb 11 cb, exB) (List.mem_cons_of_mem _ (List.mem_cons_self ..))) (by omega)
  replace q10 : ∀ W : World, (Instr.slice 22 (.slice vb 11 cb) none (some (.int .i64 10)) none).run Try.prog W = .ok (.slice s10 10 k10) W := fun W => q10 W
  replace q10' : ∀ W : World, (Instr.sliceAt 22 (.slice vb 11 cb) none (some (.int .i64 10)) none).run Try.prog W = .ok (.slice s10 10 k10) W := fun W => q10' W
  have HB10 := hide B10
  clear B10
  go_wp2_with fail
  refine (ex_none (unhide HC) _ _ _ _ (exB.take 10) 32 ex_t10 (by decide) (by omega) (unhide HB10)).mono ?_
  rintro e w10 ⟨ax10, nx10, cx10, rfl, hb⟩
  have HK8 := hide (((unhide HK7).later hb).new (.cells #[.int .u8 0, .slice ax10 nx10 cx10] 24))
  clear hb HB10 q10 q10' HK7
  go_upto_region 8 with fail
  generalize w10.alloc _ = w11 at *
  go_wp2_with fail
  refine (low_anew _ exB _ ((unhide HK8).byt (.slice vb 11 cb, exB) (List.mem_cons_of_mem _ (List.mem_cons_self ..))) (by decide)).mono ?_
  rintro e w12 ⟨r12, rfl, hF⟩
  obtain ⟨a12, c12, e12, _⟩ := hF.1.1.form
  subst e12
  obtain ⟨b12, e12, hc12, hf12, hs12⟩ := own_at (k := 10) hF.2 exB_len (by decide)
  subst e12
  have HS : Hid (Bytes (w12.setCell ⟨b12, 10, none⟩ (.int .u8 99)) (.slice (some ⟨b12, 0, none⟩) 11 c12) (exB.set 10 99)) := bytes_of_owns (hs12 99)
  have HK9 := hide ((unhide HK8).later (hF.1.2.2.setCell (p := ⟨b12, 10, none⟩) (hF.1.2.1 b12 rfl).1 (.int .u8 99)))
  replace hc12 : w12.cell? ⟨b12, 10, none⟩ = some (.int .u8 98) := by rw [hc12, exB_last]; rfl
  rw [exB_len]
  clear hF hs12 HK8
  go_upto_region 10 with fail
  generalize w12.setCell _ _ = w13 at *
  go_wp2_with fail
  refine (ex_none (unhide HC) _ _ _ _ _ 33 ex_bad (by decide) (by omega) (unhide HS)).mono ?_
  rintro e w14 ⟨ax14, nx14, cx14, rfl, hb⟩
  have HK10 := hide (((unhide HK9).later hb).new (.cells #[.int .u8 0, .slice ax14 nx14 cx14] 24))
  clear hb HS HK9 hc12 hf12
  go_upto_region 11 with fail
  generalize w14.alloc _ = w15 at *
  go_wp2_with fail
  refine (low_anew _ exB _ ((unhide HK10).byt (.slice vb 11 cb, exB) (List.mem_cons_of_mem _ (List.mem_cons_self ..))) (by decide)).mono ?_
  rintro e w16 ⟨r16, rfl, hF⟩
  have HK11 := hide ((unhide HK10).later hF.1.2.2)
  have HO16 := hide (hF.own (Below.refl _ w15))
  clear hF
  go_wp2_with (at_builtin; refine wpList_append_bytes _ rfl _ _ 22 rfl 5 ti (.int .u8 0) Try.underlying22 hti hz0 hz1 hz2 rfl _ exB rfl (unhide HO16).own _ exB rfl ((unhide HK11).byt (.slice vb 11 cb, exB) (List.mem_cons_of_mem _ (List.mem_cons_self ..))) (by decide) ?_)
  rintro v17 w17 r1 r2 r3
  have HO17 : Hid (Own w15 v17 (exB ++ exB) w17) := (unhide HO16).grown r1 r2 (by simpa using r3)
  clear r1 r2 r3 HO16 HK11
  have HO18 := hide ((unhide HO17).alloc (.cells #[.int .u8 1, .int .u8 2, .int .u8 3] 5))
  have HU18 : Hid (Bytes (w17.alloc (.cells #[.int .u8 1, .int .u8 2, .int .u8 3] 5)) (.slice (some ⟨w17.heap.size, 0, none⟩) 3 3) [1, 2, 3]) := bytes_block (bs := [1, 2, 3]) (heap_alloc_new w17 _) rfl (by decide)
  clear HO17
  go_wp2_with (at_builtin; refine wpList_append_bytes _ rfl _ _ 22 rfl 5 ti (.int .u8 0) Try.underlying22 hti hz0 hz1 hz2 rfl _ (exB ++ exB) rfl (unhide HO18).own _ [1, 2, 3] rfl (unhide HU18) (by decide) ?_)
  rintro v19 w19 r1 r2 r3
  have HO19 : Hid (Own w15 v19 (exB ++ exB ++ [1, 2, 3]) w19) := (unhide HO18).grown r1 r2 (by simpa using r3)
  clear r1 r2 r3 HO18 HU18
  have HK12 := hide ((unhide HK10).later (unhide HO19).bb)
  obtain ⟨a19, c19, e19, _⟩ := (bytes_of_owns (unhide HO19).own).form
  subst e19
  clear HK10
  go_wp2_with fail
  refine (ex_alls (unhide HC) _ _ _ _ (bytes_of_owns (unhide HO19).own)).mono ?_
  rintro e w20 ⟨a20, c20, rfl, hb⟩
  have HK13 := hide ((unhide HK12).later hb)
  clear hb HO19 HK12
  have d0 : w20.cell? ⟨g4, 0, none⟩ = some (.int .u8 1) := cell_of_row _ _ 0 _ _ _ ((unhide HK13).ce _ (List.mem_cons_self ..))
  have d1 : w20.cell? ⟨g4, 1, none⟩ = some (.slice a6 n6 c6) := cell_of_row _ _ 1 _ _ _ ((unhide HK13).ce _ (List.mem_cons_self ..))
  have d2 : w20.cell? ⟨g1, 0, none⟩ = some (.int .u8 1) := cell_of_row _ _ 0 _ _ _ ((unhide HK13).ce (g1, #[.int .u8 1, .slice (some ad) 2 2]) (List.mem_cons_of_mem _ (List.mem_cons_self ..)))
  have d3 : w20.cell? ⟨g1, 1, none⟩ = some (.slice (some ad) 2 2) := cell_of_row _ _ 1 _ _ _ ((unhide HK13).ce (g1, #[.int .u8 1, .slice (some ad) 2 2]) (List.mem_cons_of_mem _ (List.mem_cons_self ..)))
  go_wp2_with fail
  refine (ex_same _ _ _ _ _ _ _ ((unhide HK13).byt (.slice a6 n6 c6, [97, 98]) (List.mem_cons_self ..)) ((unhide HK13).byt (.slice (some ad) 2 2, [97, 98]) (List.mem_cons_of_mem _ (List.mem_cons_of_mem _ (List.mem_cons_self ..))))).mono ?_
  rintro e w21 ⟨rfl, hb⟩
  have HK14 := hide ((unhide HK13).later hb)
  clear hb HK13 d0 d1 d2 d3
  go_wp2_with fail
  go_ret
  exact ⟨rfl, (unhide HK14).bb⟩
end Go.Proofs.Ytfaoailiamcchaa
