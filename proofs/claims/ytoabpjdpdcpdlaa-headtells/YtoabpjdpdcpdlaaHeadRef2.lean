/- The document's heads (foremanref05): Bytes. No statement of the seat is proved here. -/
import Derived.Test.YtoabpjdpdcpdlaaHeadRef
import Derived.Test.YtoabpjdpdcpdlaaGenStep
namespace Go.Proofs.Ytoabpjdpdcpdlaa
open Go.RowKit

theorem hbOf_ok {h : HeadD} (hr : h.right = true) : hbOf h = h.bytes := if_pos hr
theorem hbErr_ok {h : HeadD} (hr : h.right = true) : hbErr h = 0 := if_pos hr
theorem hbOf_no {h : HeadD} (hr : h.right = false) : hbOf h = [] := if_neg (by rw [hr]; decide)
theorem hbErr_no {h : HeadD} (hr : h.right = false) : hbErr h = 50 := if_neg (by rw [hr]; decide)

/-- Bytes in a block of their own. -/
theorem bytes_lit (w : World) (bs : List UInt8) (c : Array Value) (hc : c = (bs.map bv).toArray) (hl : bs.length ≤ maxLen) : Bytes (w.alloc (.cells c 5)) (.slice (some ⟨w.heap.size, 0, none⟩) bs.length bs.length) bs := by
  subst hc
  refine .inr ⟨⟨w.heap.size, 0, none⟩, bs.length, rfl, Nat.le_refl _, hl, fun j x hx => ?_⟩
  rw [Addr.add_mid, Nat.zero_add, cell_of_row _ _ _ _ _ _ (heap_alloc_new w _)]
  simpa using hx
theorem lit8 {l : Nat} (h : l < 256) : (#[.int .u8 ((l : Nat) : Int), .int .u8 0, .int .u8 0, .int .u8 0, .int .u8 0, .int .u8 0, .int .u8 0, .int .u8 0] : Array Value) = (([UInt8.ofNat l, 0, 0, 0, 0, 0, 0, 0] : List UInt8).map bv).toArray := by
  have e : (UInt8.ofNat l).toNat = l := by rw [UInt8.toNat_ofNat']; exact Nat.mod_eq_of_lt (by simpa using h)
  have e2 : bv (UInt8.ofNat l) = .int .u8 ((l : Nat) : Int) := by
    show Value.int .u8 (((UInt8.ofNat l).toNat : Nat) : Int) = _
    rw [e]
  show _ = (bv (UInt8.ofNat l) :: _).toArray
  rw [e2]
  rfl

theorem refHBytes_no (s e l : Nat) (w : World) (hr : (HeadD.mk s e l).right = false) : Calls Try.prog 11 #[.agg #[.int .u64 ((s : Nat) : Int), .int .u64 ((e : Nat) : Int), .int .u8 ((l : Nat) : Int)]] w fun e' w' => e' = .returned (.tuple #[.slice none 0 0, .int .i64 50]) ∧ Below w.heap.size w w' := by
  have hb := (Below.refl _ w).alloc (Nat.le_refl _) (.cells #[.int .u64 ((s : Nat) : Int), .int .u64 ((e : Nat) : Int), .int .u8 ((l : Nat) : Int)] 24)
  have HB := hide hb
  have HR := hide hr
  clear hb hr
  go_enter Try.func11, Try.ntmps11
  go_wp2_with fail
  refine (refRight_any s e l _).mono ?_
  rintro e' w1 ⟨rfl, hb1⟩
  have HB1 : Hid (Below w.heap.size w w1) := (unhide HB).trans (hb1.mono (unhide HB).size)
  clear hb1 HB
  rw [unhide HR]
  go_wp2_with fail
  go_ret2
  exact ⟨rfl, unhide HB1⟩

set_option maxRecDepth 100000 in
set_option maxHeartbeats 8000000 in
theorem refHBytes_ok (s e l : Nat) (w : World) (hf : (HeadD.mk s e l).fits) (hr : (HeadD.mk s e l).right = true) : Calls Try.prog 11 #[.agg #[.int .u64 ((s : Nat) : Int), .int .u64 ((e : Nat) : Int), .int .u8 ((l : Nat) : Int)]] w fun e' w' => ∃ v, e' = .returned (.tuple #[v, .int .i64 0]) ∧ FreshO w w' v (HeadD.mk s e l).bytes := by
  obtain ⟨ti, hti, hz0, hz1, hz2⟩ := infoByte
  have hb := (Below.refl _ w).alloc (Nat.le_refl _) (.cells #[.int .u64 ((s : Nat) : Int), .int .u64 ((e : Nat) : Int), .int .u8 ((l : Nat) : Int)] 24)
  have HB := hide hb
  have HX : Hid ((w.alloc (.cells #[.int .u64 ((s : Nat) : Int), .int .u64 ((e : Nat) : Int), .int .u8 ((l : Nat) : Int)] 24)).heap[w.heap.size]? = some (.cells #[.int .u64 ((s : Nat) : Int), .int .u64 ((e : Nat) : Int), .int .u8 ((l : Nat) : Int)] 24 (0, 0))) := heap_alloc_new w _
  have HS : Hid (s < 18446744073709551616) := hf.1
  have HE : Hid (e < 18446744073709551616) := hf.2.1
  have HL : Hid (l < 256) := hf.2.2
  have HR := hide hr
  have HBY : Hid ((HeadD.mk s e l).bytes = eight s ++ eight e ++ [UInt8.ofNat l, 0, 0, 0, 0, 0, 0, 0] ++ eight s) := rfl
  clear hb hf hr
  go_enter Try.func11, Try.ntmps11
  go_wp2_with fail
  refine (refRight_any s e l _).mono ?_
  rintro e' w1 ⟨rfl, hb1⟩
  have HB1 : Hid (Below w.heap.size w w1) := (unhide HB).trans (hb1.mono (unhide HB).size)
  have HX1 : Hid (w1.heap[w.heap.size]? = some (.cells #[.int .u64 ((s : Nat) : Int), .int .u64 ((e : Nat) : Int), .int .u8 ((l : Nat) : Int)] 24 (0, 0))) := (hb1.block _ (Array.getElem?_eq_some_iff.1 (unhide HX)).1).trans (unhide HX)
  clear hb1 HB HX
  rw [unhide HR]
  obtain ⟨g1, hg1⟩ : ∃ g, g = w.heap.size := ⟨_, rfl⟩
  rw [← hg1] at HX1 ⊢
  have HG := hide hg1
  clear hg1
  have c0 : w1.cell? ⟨g1, 0, none⟩ = some (.int .u64 ((s : Nat) : Int)) := cell_of_row _ _ 0 _ _ _ (unhide HX1)
  have c1 : w1.cell? ⟨g1, 1, none⟩ = some (.int .u64 ((e : Nat) : Int)) := cell_of_row _ _ 1 _ _ _ (unhide HX1)
  have HKS : Hid (∀ W, Below w1.heap.size w1 W → W.cell? ⟨g1, 0, none⟩ = some (.int .u64 ((s : Nat) : Int)) ∧ W.cell? ⟨g1, 1, none⟩ = some (.int .u64 ((e : Nat) : Int)) ∧ Below w1.heap.size w1 W) := fun W hb =>
    ⟨(hb.cell (p := ⟨g1, 0, none⟩) (World.block_lt_of_cell? _ _ c0)).trans c0, (hb.cell (p := ⟨g1, 1, none⟩) (World.block_lt_of_cell? _ _ c1)).trans c1, hb⟩
  have HL16 : Hid ((eight s).length + (eight e).length ≤ 140737488355328) := by show _ ≤ _; rw [eight_len, eight_len]; decide
  have tok1 : True := trivial
  go_upto_region 3 with fail
  go_cut [4] (fun v wx => Own w1 v (eight s ++ eight e) wx)
  case first =>
    go_region_held3 (fun W => W.cell? ⟨g1, 0, none⟩ = some (.int .u64 ((s : Nat) : Int)) ∧ W.cell? ⟨g1, 1, none⟩ = some (.int .u64 ((e : Nat) : Int)) ∧ Below w1.heap.size w1 W)
      ((refine unhide HKS _ ?_; first | assumption | exact (Below.refl _ _).drew))
      (first
        | (have _t := tok1; go_at_call 34; clear tok1; refine (refEight_any s (unhide HS) _).mono ?_; rintro e' w2 ⟨va, rfl, hFa⟩; have hOa := hFa.own (by assumption : _ ∧ _ ∧ Below w1.heap.size w1 _).2.2; have hBa := hOa.bb; (first | (have HP := hide (And.intro hOa ((unhide HOE).later hFa.1.2.2)); clear HOE) | have HOA := hide hOa); clear hFa hOa)
        | (go_at_call 34; refine (refEight_any e (unhide HE) _).mono ?_; rintro e' w3 ⟨ve, rfl, hFe⟩; have hOe := hFe.own (by assumption : _ ∧ _ ∧ Below w1.heap.size w1 _).2.2; have hBe := hOe.bb; (first | (have HP := hide (And.intro ((unhide HOA).later hFe.1.2.2) hOe); clear HOA) | have HOE := hide hOe); clear hFe hOe)
        | (refine step_append_bytes rfl (.tmp 10) (.tmp 13) 25 rfl 5 ti (.int .u8 0) Try.underlying25 hti hz0 hz1 hz2 rfl va (eight s) ?_ (unhide HP).1.own ve (eight e) ?_ (bytes_of_owns (unhide HP).2.own) (unhide HL16) ?_; rfl; rfl; intro v4 w4 r1 r2 r3; have hO4 := (unhide HP).1.grown r1 r2 r3; have hB4 := hO4.bb; have HO4 := hide hO4; clear r1 r2 r3 hO4))
    go_wp2_with fail
    go_meet
    exact unhide HO4
  have HO5 := hide hcut
  clear hcut c0 c1 HKS HL16
  generalize wc = w5 at *
  have HX5 : Hid (w5.heap[g1]? = some (.cells #[.int .u64 ((s : Nat) : Int), .int .u64 ((e : Nat) : Int), .int .u8 ((l : Nat) : Int)] 24 (0, 0))) := ((unhide HO5).bb.block _ (Array.getElem?_eq_some_iff.1 (unhide HX1)).1).trans (unhide HX1)
  have c2 : w5.cell? ⟨g1, 2, none⟩ = some (.int .u8 ((l : Nat) : Int)) := cell_of_row _ _ 2 _ _ _ (unhide HX5)
  have HU : Hid (Bytes (w5.alloc (.cells #[.int .u8 ((l : Nat) : Int), .int .u8 0, .int .u8 0, .int .u8 0, .int .u8 0, .int .u8 0, .int .u8 0, .int .u8 0] 5)) (.slice (some ⟨w5.heap.size, 0, none⟩) 8 8) [UInt8.ofNat l, 0, 0, 0, 0, 0, 0, 0]) := bytes_lit w5 [UInt8.ofNat l, 0, 0, 0, 0, 0, 0, 0] _ (lit8 (unhide HL)) (by show 8 ≤ maxLen; decide)
  have HA5 : Hid (Own w1 u4 (eight s ++ eight e) (w5.alloc (.cells #[.int .u8 ((l : Nat) : Int), .int .u8 0, .int .u8 0, .int .u8 0, .int .u8 0, .int .u8 0, .int .u8 0, .int .u8 0] 5))) := (unhide HO5).alloc _
  have HL5 : Hid ((eight s ++ eight e).length + [UInt8.ofNat l, 0, 0, 0, 0, 0, 0, 0].length ≤ 140737488355328) := by show _ ≤ _; rw [List.length_append, eight_len, eight_len]; simp
  clear HO5 HX5
  go_wp2_with (at_builtin; refine wpList_append_bytes _ rfl _ _ 25 rfl 5 ti (.int .u8 0) Try.underlying25 hti hz0 hz1 hz2 rfl _ (eight s ++ eight e) rfl (unhide HA5).own _ [UInt8.ofNat l, 0, 0, 0, 0, 0, 0, 0] rfl (unhide HU) (unhide HL5) ?_)
  rintro v6 w6 r1 r2 r3
  have HO6 : Hid (Own w1 v6 (eight s ++ eight e ++ [UInt8.ofNat l, 0, 0, 0, 0, 0, 0, 0]) w6) := (unhide HA5).grown (by simpa using r1) r2 (by simpa using r3)
  clear r1 r2 r3 HA5 HU HL5 c2
  have c0 : w6.cell? ⟨g1, 0, none⟩ = some (.int .u64 ((s : Nat) : Int)) := cell_of_row _ _ 0 _ _ _ (((unhide HO6).bb.block _ (Array.getElem?_eq_some_iff.1 (unhide HX1)).1).trans (unhide HX1))
  have HL6 : Hid ((eight s ++ eight e ++ [UInt8.ofNat l, 0, 0, 0, 0, 0, 0, 0]).length + (eight s).length ≤ 140737488355328) := by show _ ≤ _; rw [List.length_append, List.length_append, eight_len, eight_len]; simp
  go_wp2_with fail
  refine (refEight_any s (unhide HS) _).mono ?_
  rintro e' w7 ⟨v7, rfl, hF⟩
  have HF7 := hide hF
  have HO7 := hide ((unhide HO6).later hF.1.2.2)
  clear hF HO6 c0
  go_wp2_with (at_builtin; refine wpList_append_bytes _ rfl _ _ 25 rfl 5 ti (.int .u8 0) Try.underlying25 hti hz0 hz1 hz2 rfl _ (eight s ++ eight e ++ [UInt8.ofNat l, 0, 0, 0, 0, 0, 0, 0]) rfl (unhide HO7).own _ (eight s) rfl (unhide HF7).1.1 (unhide HL6) ?_)
  rintro v8 w8 r1 r2 r3
  have HO8 : Hid (Own w1 v8 (eight s ++ eight e ++ [UInt8.ofNat l, 0, 0, 0, 0, 0, 0, 0] ++ eight s) w8) := (unhide HO7).grown (by simpa using r1) r2 (by simpa using r3)
  clear r1 r2 r3 HO7 HF7 HL6
  go_wp2_with fail
  go_ret2
  exact ⟨_, rfl, by rw [unhide HBY]; exact ((unhide HO8).lift (unhide HB1)).fresh⟩
end Go.Proofs.Ytoabpjdpdcpdlaa
