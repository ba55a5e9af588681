/- HeadTorn, walked over HeadPure. -/
import Derived.Test.YtoabpjdpdcpdlaaHeadPure
import Derived.Test.YtoabpjdpdcpdlaaGenZeros
import Derived.Test.YtoabpjdpdcpdlaaGenStep
import Derived.Test.YtoabpjdpdcpdlaaGen2
namespace Go.Proofs.Ytoabpjdpdcpdlaa
open Go.RowKit

/-- A row of bytes that is new and empty. -/
theorem Own.empty {w W : World} {g : Nat} (h : W.heap[g]? = some (.cells #[] 5 (0, 0))) (hg : w.heap.size ≤ g) (hb : Below w.heap.size w W) : Own w (.slice (some ⟨g, 0, none⟩) 0 0) [] W :=
  ⟨⟨rfl, .inr ⟨g, 0, #[], rfl, Nat.zero_le _, h, Nat.le_refl _, Nat.zero_le _, rfl, rfl⟩⟩, fun k hk => by cases hk; exact hg, hb⟩
/-- A head's place that is new and not yet written, beside a row. -/
structure Zrow (w : World) (g : Nat) (v : Value) (W : World) : Prop where
  row : W.heap[g]? = some (Obj.cells #[.int .u64 0, .int .u64 0, .int .u8 0] 24 (0, 0))
  new : w.heap.size ≤ g
  apart : v.ownBlock ≠ some g
theorem zkeep {w W W' : World} {g : Nat} {v v' : Value} (h : Zrow w g v W) (r2 : W.grownBy W' v.ownBlock) (r3 : v'.ownBlock = v.ownBlock ∨ ∃ k, v'.ownBlock = some k ∧ W.heap.size ≤ k) : Zrow w g v' W' := by
  have hlt := (Array.getElem?_eq_some_iff.1 h.row).1
  refine ⟨(r2.block g hlt (fun e => h.apart (by first | exact e | exact e.symm))).trans h.row, h.new, fun e => ?_⟩
  rcases r3 with e' | ⟨k, e', hk⟩
  · exact h.apart (e'.symm.trans e)
  · rw [e'] at e; cases e; omega
theorem Zrow.later {w W W' : World} {g : Nat} {v : Value} (h : Zrow w g v W) (hb : Below W.heap.size W W') : Zrow w g v W' := ⟨(hb.block g (Array.getElem?_eq_some_iff.1 h.row).1).trans h.row, h.new, h.apart⟩
theorem Zrow.start {w W : World} {v : Value} {bs : List UInt8} (h : Own w v bs W) : Zrow w W.heap.size v (W.alloc (.cells #[.int .u64 0, .int .u64 0, .int .u8 0] 24)) := ⟨heap_alloc_new W _, h.bb.size, fun e => by have := (h.own.lt _ e).2; omega⟩
theorem Zrow.cells {w W : World} {g : Nat} {v : Value} (h : Zrow w g v W) : W.cell? ⟨g, 0, none⟩ = some (.int .u64 0) ∧ W.cell? ⟨g, 1, none⟩ = some (.int .u64 0) ∧ W.cell? ⟨g, 2, none⟩ = some (.int .u8 0) ∧ W.frozen? ⟨g, 0, none⟩ = false ∧ W.frozen? ⟨g, 1, none⟩ = false ∧ W.frozen? ⟨g, 2, none⟩ = false :=
  ⟨cell_of_row _ _ 0 _ _ _ h.row, cell_of_row _ _ 1 _ _ _ h.row, cell_of_row _ _ 2 _ _ _ h.row, frozen_of_row _ _ _ _ _ h.row, frozen_of_row _ _ _ _ _ h.row, frozen_of_row _ _ _ _ _ h.row⟩

/-- What may come of it. -/
theorem torn_cases {s0 e0 l0 s1 e1 l1 s2 e2 l2 s3 e3 l3 k : Nat} {X Y A B : List UInt8} (f0 : (HeadD.mk s0 e0 l0).fits) (f1 : (HeadD.mk s1 e1 l1).fits) (r0 : (HeadD.mk s0 e0 l0).right = true) (r1 : (HeadD.mk s1 e1 l1).right = true) (hne : s0 ≠ s1) (hk : k ≤ 32)
    (hX : X = (HeadD.mk s0 e0 l0).bytes) (hY : Y = (HeadD.mk s1 e1 l1).bytes) (hA : A = Y.take k ++ X.drop k) (hB : B = Y.take k ++ List.replicate (32 - k) (0 : UInt8)) (h2 : HeadD.mk s2 e2 l2 = readH A) (h3 : HeadD.mk s3 e3 l3 = readH B) :
    (k = 0 ∧ isHead A = true ∧ isHead B = false ∧ HeadD.mk s2 e2 l2 = HeadD.mk s0 e0 l0) ∨ (k = 32 ∧ isHead A = true ∧ isHead B = true ∧ HeadD.mk s2 e2 l2 = HeadD.mk s1 e1 l1 ∧ HeadD.mk s3 e3 l3 = HeadD.mk s1 e1 l1) ∨
      (0 < k ∧ k < 32 ∧ (isHead A = false ∨ (isHead A = true ∧ HeadD.mk s2 e2 l2 = HeadD.mk s0 e0 l0) ∨ (isHead A = true ∧ HeadD.mk s2 e2 l2 = HeadD.mk s1 e1 l1)) ∧ (isHead B = false ∨ (isHead B = true ∧ HeadD.mk s3 e3 l3 = HeadD.mk s1 e1 l1))) := by
  obtain ⟨i0, j0⟩ := read_bytes f0 r0
  obtain ⟨i1, j1⟩ := read_bytes f1 r1
  have eX : isHead X = true ∧ readH X = HeadD.mk s0 e0 l0 := by rw [hX]; exact ⟨i0, (readH_is i0).trans j0⟩
  have eY : isHead Y = true ∧ readH Y = HeadD.mk s1 e1 l1 := by rw [hY]; exact ⟨i1, (readH_is i1).trans j1⟩
  have lX : X.length = 32 := by rw [hX]; exact HeadD.bytes_len _
  have lY : Y.length = 32 := by rw [hY]; exact HeadD.bytes_len _
  have tA : isHead A = true → A = Y ∨ A = X := fun h => by
    rw [hA, hX, hY] at h ⊢
    exact torn_heads f0 f1 hne hk h
  have tB : isHead B = true → B = Y := fun h => by
    rw [hB, hY] at h ⊢
    exact torn_noughts f1 (HeadD.right_iff.1 r1).1 hk h
  by_cases h0 : k = 0
  · subst h0
    have e : A = X := by rw [hA]; simp
    have eb : isHead B = false := by
      rw [hB, List.take_zero, List.nil_append]
      decide +kernel
    exact .inl ⟨rfl, by rw [e]; exact eX.1, eb, by rw [h2, e]; exact eX.2⟩
  · by_cases h32 : k = 32
    · subst h32
      have e : A = Y := by rw [hA, List.take_of_length_le (by omega), List.drop_of_length_le (by omega), List.append_nil]
      have eb : B = Y := by rw [hB, List.take_of_length_le (by omega)]; simp
      exact .inr (.inl ⟨rfl, by rw [e]; exact eY.1, by rw [eb]; exact eY.1, by rw [h2, e]; exact eY.2, by rw [h3, eb]; exact eY.2⟩)
    · refine .inr (.inr ⟨by omega, by omega, ?_, ?_⟩)
      · cases hi : isHead A with
        | false => exact .inl rfl
        | true =>
          rcases tA hi with e | e
          · exact .inr (.inr ⟨rfl, by rw [h2, e]; exact eY.2⟩)
          · exact .inr (.inl ⟨rfl, by rw [h2, e]; exact eX.2⟩)
      · cases hi : isHead B with
        | false => exact .inl rfl
        | true => exact .inr ⟨rfl, by rw [h3, tB hi]; exact eY.2⟩

section
variable (hp : HeadPure) (ha : HeadAwake) (s0 e0 l0 s1 e1 l1 q : Nat) (w : World)
include hp ha

set_option maxRecDepth 100000 in
set_option maxHeartbeats 8000000 in
theorem headTorn_any (hq : q < 256) (f0 : (HeadD.mk s0 e0 l0).fits) (f1 : (HeadD.mk s1 e1 l1).fits) : Calls Try.prog 5 #[.agg #[.int .u64 ((s0 : Nat) : Int), .int .u64 ((e0 : Nat) : Int), .int .u8 ((l0 : Nat) : Int)], .agg #[.int .u64 ((s1 : Nat) : Int), .int .u64 ((e1 : Nat) : Int), .int .u8 ((l1 : Nat) : Int)], .int .u8 ((q : Nat) : Int)] w fun e w' => e = .returned (.bool true) ∧ Below w.heap.size w w' := by
  have HP := hide hp
  have HA := hide ha
  have HF0 := hide f0
  have HF1 := hide f1
  have k0 := ((Kh.start w).newC #[.int .u64 ((s0 : Nat) : Int), .int .u64 ((e0 : Nat) : Int), .int .u8 ((l0 : Nat) : Int)]).newC #[.int .u64 ((s1 : Nat) : Int), .int .u64 ((e1 : Nat) : Int), .int .u8 ((l1 : Nat) : Int)]
  have esz : (w.alloc (.cells #[.int .u64 ((s0 : Nat) : Int), .int .u64 ((e0 : Nat) : Int), .int .u8 ((l0 : Nat) : Int)] 24)).heap.size = w.heap.size + 1 := by simp
  rw [esz] at k0
  have HK0 := hide k0
  clear hp ha f0 f1 k0 esz
  go_enter Try.func5, Try.ntmps5
  go_upto_region 1 with fail
  generalize (w.alloc _).alloc _ = w0 at *
  obtain ⟨B3, hB3⟩ : ∃ B3, B3 = w.heap.size := ⟨_, rfl⟩
  obtain ⟨B4, hB4⟩ : ∃ B4, B4 = w.heap.size + 1 := ⟨_, rfl⟩
  rw [← hB4] at HK0 ⊢
  rw [← hB3] at HK0 ⊢
  clear hB3 hB4
  obtain ⟨x0, x1, x2⟩ := (unhide HK0).three (g := B3) (List.mem_cons_of_mem _ (List.mem_cons_self ..))
  go_wp2_with fail
  refine ((unhide HP).bytes s0 e0 l0 _ (unhide HF0)).mono ?_
  rintro e w1 ⟨v1, rfl, hv1, hb1⟩
  obtain ⟨va, vc, ev, hvc⟩ := hv1.form
  subst ev
  have HK1 := hide (((unhide HK0).later hb1).addB hv1)
  clear hb1 hv1 HK0 x0 x1 x2
  obtain ⟨y0, y1, y2⟩ := (unhide HK1).three (g := B4) (List.mem_cons_self ..)
  go_wp2_with fail
  refine ((unhide HP).bytes s1 e1 l1 _ (unhide HF1)).mono ?_
  rintro e w2 ⟨v2, rfl, hv2, hb2⟩
  obtain ⟨ua, uc, ev, huc⟩ := hv2.form
  subst ev
  have HK2 := hide (((unhide HK1).later hb2).addB hv2)
  clear hb2 hv2 HK1 y0 y1 y2
  obtain ⟨x0, x1, x2⟩ := (unhide HK2).three (g := B3) (List.mem_cons_of_mem _ (List.mem_cons_self ..))
  obtain ⟨y0, y1, y2⟩ := (unhide HK2).three (g := B4) (List.mem_cons_self ..)
  by_cases hok : (HeadD.mk s0 e0 l0).right = true ∧ (HeadD.mk s1 e1 l1).right = true ∧ s0 ≠ s1
  · obtain ⟨hr0, hr1, hne⟩ := hok
    rw [hbErr_ok hr0, hbErr_ok hr1]
    rw [hbOf_ok hr0, hbOf_ok hr1] at HK2 ⊢
    rw [HeadD.bytes_len, HeadD.bytes_len] at HK2 ⊢
    rw [hbOf_ok hr0, HeadD.bytes_len] at hvc
    rw [hbOf_ok hr1, HeadD.bytes_len] at huc
    have HR0 := hide hr0
    have HR1 := hide hr1
    have HNE := hide hne
    have g1 : ¬ (s0 : Int) = (s1 : Int) := by omega
    have g2 : ((s0 : Int) == (s1 : Int)) = false := beq_eq_false_iff_ne.2 g1
    clear hr0 hr1
    obtain ⟨X, hX⟩ : ∃ X, X = (HeadD.mk s0 e0 l0).bytes := ⟨_, rfl⟩
    obtain ⟨Y, hY⟩ : ∃ Y, Y = (HeadD.mk s1 e1 l1).bytes := ⟨_, rfl⟩
    rw [← hX, ← hY] at HK2
    have HX := hide hX
    have HY := hide hY
    clear hX hY
    obtain ⟨k, hk⟩ : ∃ k, k = q % 33 := ⟨_, rfl⟩
    have hk33 : k ≤ 32 := by omega
    have ek : Int.tmod (q : Int) 33 = ((k : Nat) : Int) := by rw [Int.tmod_eq_emod_of_nonneg (by omega)]; omega
    have ek2 : (q : Int) % 33 = ((k : Nat) : Int) := by omega
    clear hk
    obtain ⟨ya, yc, bY, pY, pY'⟩ := slice_to (h := k) ((unhide HK2).byt (.slice ua 32 uc, Y) (List.mem_cons_self ..)) hk33
    obtain ⟨xa, xc, bX, pX, pX'⟩ := slice_from (l := k) ((unhide HK2).byt (.slice va 32 vc, X) (List.mem_cons_of_mem _ (List.mem_cons_self ..))) hk33
    have HBY := hide bY
    have HBX := hide bX
    obtain ⟨A, hA⟩ : ∃ A, A = Y.take k ++ X.drop k := ⟨_, rfl⟩
    have HAA := hide hA
    obtain ⟨⟨s2, e2, l2⟩, hH⟩ : ∃ H, H = readH A := ⟨_, rfl⟩
    have HHV : Hid ((readH A).val = .agg #[.int .u64 ((s2 : Nat) : Int), .int .u64 ((e2 : Nat) : Int), .int .u8 ((l2 : Nat) : Int)]) := by show _ = _; rw [← hH]; rfl
    have HH := hide hH
    clear bY bX hA hH
    obtain ⟨ti, hti, hz0, hz1, hz2⟩ := infoByte
    have HL1 : Hid (([] : List UInt8).length + (Y.take k).length ≤ 140737488355328) := by show _ ≤ _; rw [List.length_take]; simp; omega
    have HL2 : Hid ((Y.take k).length + (X.drop k).length ≤ 140737488355328) := by show _ ≤ _; rw [List.length_take, List.length_drop, unhide HX, HeadD.bytes_len]; omega
    go_upto_region 8 with fail
    go_cut [12, 13] (fun p v wx => ∃ g : Nat, p = .pointer (some ⟨g, 0, none⟩) ∧ v = .bool (isHead A) ∧ wx.heap[g]? = some (.cells #[.int .u64 ((s2 : Nat) : Int), .int .u64 ((e2 : Nat) : Int), .int .u8 ((l2 : Nat) : Int)] 24 (0, 0)) ∧ Kh w wx [(.slice ua 32 uc, Y), (.slice va 32 vc, X)] [(B4, #[.int .u64 ((s1 : Nat) : Int), .int .u64 ((e1 : Nat) : Int), .int .u8 ((l1 : Nat) : Int)]), (B3, #[.int .u64 ((s0 : Nat) : Int), .int .u64 ((e0 : Nat) : Int), .int .u8 ((l0 : Nat) : Int)])])
    case first =>
      have tok1 : True := trivial
      have tok2 : True := trivial
      have HO1 : Hid (Own w2 (.slice (some ⟨w2.heap.size, 0, none⟩) 0 0) [] (w2.alloc (.cells #[] 5)).drew) := Own.empty (by exact heap_alloc_new w2 _) (Nat.le_refl _) ((Below.refl _ w2).alloc (Nat.le_refl _) _).drew
      have HO2 : Hid (Own w2 (.slice (some ⟨w2.heap.size, 0, none⟩) 0 0) [] ((w2.alloc (.cells #[] 5)).alloc (.cells #[.int .u64 0, .int .u64 0, .int .u8 0] 24)).drew) := Own.empty (by exact (heap_alloc_old (w2.alloc (.cells #[] 5)) _ (by simp)).trans (heap_alloc_new w2 _)) (Nat.le_refl _) (((Below.refl _ w2).alloc (Nat.le_refl _) _).alloc (by simp) _).drew
      have HZ2 : Hid (Zrow w2 (w2.heap.size + 1) (.slice (some ⟨w2.heap.size, 0, none⟩) 0 0) ((w2.alloc (.cells #[] 5)).alloc (.cells #[.int .u64 0, .int .u64 0, .int .u8 0] 24)).drew) := ⟨by have h := heap_alloc_new (w2.alloc (.cells #[] 5)) (.cells #[.int .u64 0, .int .u64 0, .int .u8 0] 24); rw [show (w2.alloc (.cells #[] 5)).heap.size = w2.heap.size + 1 by simp] at h; exact h, by omega, by simp [Value.ownBlock]⟩
      have HO0 : Hid (Own w2 (.slice (some ⟨w2.heap.size + 1, 0, none⟩) 0 0) [] ((w2.alloc (.cells #[.int .u64 0, .int .u64 0, .int .u8 0] 24)).alloc (.cells #[] 5)).drew) := Own.empty (by have h := heap_alloc_new (w2.alloc (.cells #[.int .u64 0, .int .u64 0, .int .u8 0] 24)) (.cells #[] 5); rw [show (w2.alloc (.cells #[.int .u64 0, .int .u64 0, .int .u8 0] 24)).heap.size = w2.heap.size + 1 by simp] at h; exact h) (by omega) (((Below.refl _ w2).alloc (Nat.le_refl _) _).alloc (by simp) _).drew
      have HZ0 : Hid (Zrow w2 w2.heap.size (.slice (some ⟨w2.heap.size + 1, 0, none⟩) 0 0) ((w2.alloc (.cells #[.int .u64 0, .int .u64 0, .int .u8 0] 24)).alloc (.cells #[] 5)).drew) := ⟨by exact (heap_alloc_old (w2.alloc (.cells #[.int .u64 0, .int .u64 0, .int .u8 0] 24)) _ (by simp)).trans (heap_alloc_new w2 _), Nat.le_refl _, by simp [Value.ownBlock]⟩
      go_region_held3 (fun _ => True) (trivial)
        (first
          | (have _t := tok1; refine step_append_bytes rfl (.tmp 52) (.tmp 55) 25 rfl 5 ti (.int .u8 0) Try.underlying25 hti hz0 hz1 hz2 rfl (.slice (some ⟨w2.heap.size, 0, none⟩) 0 0) [] ?_ (unhide HO1).own (.slice ya k yc) (Y.take k) ?_ ((unhide HBY).kept fun b _ hb => (unhide HO1).bb.block b hb) (unhide HL1) ?_; rfl; rfl; intro v3 w3 r1 r2 r3; clear tok1; have hO3 : Own w2 v3 (Y.take k) w3 := (unhide HO1).grown (by simpa using r1) r2 r3; have HO3 := hide hO3; clear r1 r2 r3 hO3)
          | (have _t := tok1; refine step_append_bytes rfl (.tmp 52) (.tmp 55) 25 rfl 5 ti (.int .u8 0) Try.underlying25 hti hz0 hz1 hz2 rfl (.slice (some ⟨w2.heap.size, 0, none⟩) 0 0) [] ?_ (unhide HO2).own (.slice ya k yc) (Y.take k) ?_ ((unhide HBY).kept fun b _ hb => (unhide HO2).bb.block b hb) (unhide HL1) ?_; rfl; rfl; intro v3 w3 r1 r2 r3; clear tok1; have hO3 : Own w2 v3 (Y.take k) w3 := (unhide HO2).grown (by simpa using r1) r2 r3; have HZ3 := hide (zkeep (unhide HZ2) r2 r3); have HO3 := hide hO3; clear r1 r2 r3 hO3)
          | (have _t := tok1; refine step_append_bytes rfl (.tmp 52) (.tmp 55) 25 rfl 5 ti (.int .u8 0) Try.underlying25 hti hz0 hz1 hz2 rfl (.slice (some ⟨w2.heap.size + 1, 0, none⟩) 0 0) [] ?_ (unhide HO0).own (.slice ya k yc) (Y.take k) ?_ ((unhide HBY).kept fun b _ hb => (unhide HO0).bb.block b hb) (unhide HL1) ?_; rfl; rfl; intro v3 w3 r1 r2 r3; clear tok1; have hO3 : Own w2 v3 (Y.take k) w3 := (unhide HO0).grown (by simpa using r1) r2 r3; have HZ3 := hide (zkeep (unhide HZ0) r2 r3); have HO3 := hide hO3; clear r1 r2 r3 hO3)
          | (have _t := tok2; refine step_append_bytes rfl (.tmp 56) (.tmp 59) 25 rfl 5 ti (.int .u8 0) Try.underlying25 hti hz0 hz1 hz2 rfl v3 (Y.take k) ?_ (unhide HO3).own (.slice xa (32 - k) xc) (X.drop k) ?_ ((unhide HBX).kept fun b _ hb => (unhide HO3).bb.block b hb) (unhide HL2) ?_; rfl; rfl; intro v4 w4 r1 r2 r3; clear tok2; have hO4 : Own w2 v4 A w4 := (unhide HO3).grown (by rw [unhide HAA]; exact r1) r2 r3; (first | have HZ4 := hide (zkeep (unhide HZ3) r2 r3) | skip); have HO4 := hide hO4; clear r1 r2 r3 hO4)
          | (have _t := tok2; refine step_append_bytes rfl (.tmp 56) (.tmp 59) 25 rfl 5 ti (.int .u8 0) Try.underlying25 hti hz0 hz1 hz2 rfl v3 (Y.take k) ?_ ((unhide HO3).alloc (.cells #[.int .u64 0, .int .u64 0, .int .u8 0] 24)).own (.slice xa (32 - k) xc) (X.drop k) ?_ ((unhide HBX).kept fun b _ hb => ((unhide HO3).alloc (.cells #[.int .u64 0, .int .u64 0, .int .u8 0] 24)).bb.block b hb) (unhide HL2) ?_; rfl; rfl; intro v4 w4 r1 r2 r3; clear tok2; have hO4 : Own w2 v4 A w4 := ((unhide HO3).alloc (.cells #[.int .u64 0, .int .u64 0, .int .u8 0] 24)).grown (by rw [unhide HAA]; exact r1) r2 r3; have HZ4 := hide (zkeep (Zrow.start (unhide HO3)) r2 r3); have HO4 := hide hO4; clear r1 r2 r3 hO4)
          | (go_at_call 12; refine ((unhide HP).read v4 A w4 (bytes_of_owns (unhide HO4).own)).mono ?_; rintro e w5 ⟨rfl, hb5⟩; rw [unhide HHV]; have hB5 := (unhide HO4).bb.trans (hb5.mono (unhide HO4).bb.size); (first | (have HZ5 := hide ((unhide HZ4).later hb5); obtain ⟨z0, z1, z2, z3, z4, z5⟩ := (unhide HZ5).cells) | skip); have HB5 := hide hB5; clear hb5 hB5)
          | (go_at_call 12; refine ((unhide HP).read v4 A _ (bytes_of_owns ((unhide HO4).alloc (.cells #[.int .u64 0, .int .u64 0, .int .u8 0] 24)).own)).mono ?_; rintro e w5 ⟨rfl, hb5⟩; rw [unhide HHV]; have hB5 := ((unhide HO4).alloc (.cells #[.int .u64 0, .int .u64 0, .int .u8 0] 24)).bb.trans (hb5.mono ((unhide HO4).alloc (.cells #[.int .u64 0, .int .u64 0, .int .u8 0] 24)).bb.size); have HZ5 := hide ((Zrow.start (unhide HO4)).later hb5); obtain ⟨z0, z1, z2, z3, z4, z5⟩ := (unhide HZ5).cells; have HB5 := hide hB5; clear hb5 hB5))
      all_goals (
        go_wp2_with fail
        go_meet
        first
          | exact ⟨_, rfl, rfl, (by exact heap_alloc_new w5 _), (unhide HK2).later ((unhide HB5).alloc (unhide HB5).size _)⟩
          | exact ⟨_, rfl, rfl, set3_heap (unhide HZ5).row _ _ _, (unhide HK2).later (set3_below (unhide HB5) (unhide HZ5).new _ _ _)⟩)
    obtain ⟨g, rfl, rfl, hg, hK3⟩ := hcut
    have HK3 := hide (hK3.addC hg)
    clear hg hK3 HK2 x0 x1 x2 y0 y1 y2 pX pX' pY pY' HBX HBY HHV
    generalize wc = w3 at *
    obtain ⟨B, hB⟩ : ∃ B, B = Y.take k ++ List.replicate (32 - k) (0 : UInt8) := ⟨_, rfl⟩
    have HBB := hide hB
    obtain ⟨⟨s3, e3, l3⟩, hH3⟩ : ∃ H, H = readH B := ⟨_, rfl⟩
    have HHV3 : Hid ((readH B).val = .agg #[.int .u64 ((s3 : Nat) : Int), .int .u64 ((e3 : Nat) : Int), .int .u8 ((l3 : Nat) : Int)]) := by show _ = _; rw [← hH3]; rfl
    have HH3 := hide hH3
    clear hB hH3
    obtain ⟨ya2, yc2, bY, pY, pY'⟩ := slice_to (h := k) ((unhide HK3).byt (.slice ua 32 uc, Y) (List.mem_cons_self ..)) hk33
    have HO3 : Hid (Own w3 (.slice (some ⟨w3.heap.size, 0, none⟩) 0 0) [] (w3.alloc (.cells #[] 5))) := Own.empty (by exact heap_alloc_new w3 _) (Nat.le_refl _) ((Below.refl _ w3).alloc (Nat.le_refl _) _)
    have HBY : Hid (Bytes (w3.alloc (.cells #[] 5)) (.slice ya2 k yc2) (Y.take k)) := bY.kept fun b _ hb => (unhide HO3).bb.block b hb
    have esub : IntKind.i64.wrap (32 - (k : Int)) = ((32 - k : Nat) : Int) := by rw [IntKind.wrap_i64]; omega
    have HL3 : Hid ((Y.take k).length + (32 - k) ≤ 140737488355328) := by show _ ≤ _; rw [List.length_take]; omega
    clear bY
    go_wp2_with (at_builtin; refine wpList_append_bytes _ rfl _ _ 25 rfl 5 ti (.int .u8 0) Try.underlying25 hti hz0 hz1 hz2 rfl _ [] rfl (unhide HO3).own _ (Y.take k) rfl (unhide HBY) (unhide HL1) ?_)
    rintro v4 w4 r1 r2 r3
    have HO4 : Hid (Own w3 v4 (Y.take k) w4) := (unhide HO3).grown (by simpa using r1) r2 (by simpa using r3)
    clear r1 r2 r3 HO3 HBY pY pY'
    go_wp2_with (at_builtin; refine wpList_append_noughts _ rfl _ _ 25 3 rfl 5 ti .i64 .i64 Try.underlying25 Try.underlying3 hti hz0 hz1 hz2 _ (Y.take k) rfl (unhide HO4).own (32 - k) rfl (unhide HL3) ?_)
    rintro v5 w5 r1 r2 r3
    have HO5 : Hid (Own w3 v5 B w5) := (unhide HO4).grown (by rw [unhide HBB]; simpa using r1) r2 (by simpa using r3)
    clear r1 r2 r3 HO4
    go_wp2_with fail
    refine ((unhide HP).read v5 B _ (bytes_of_owns (unhide HO5).own)).mono ?_
    rintro e w6 ⟨rfl, hb6⟩
    rw [unhide HHV3]
    have HK6 := hide (((unhide HK3).later ((unhide HO5).bb.trans (hb6.mono (unhide HO5).bb.size))).newC #[.int .u64 ((s3 : Nat) : Int), .int .u64 ((e3 : Nat) : Int), .int .u8 ((l3 : Nat) : Int)])
    clear hb6 HO5 HK3 HL1 HL2 HL3 hti hz0 hz1 hz2
    go_upto_region 10 with fail
    generalize w6.alloc _ = w7 at *
    generalize w6.heap.size = g7 at *
    obtain ⟨a0, a1, a2⟩ := (unhide HK6).three (g := g7) (List.mem_cons_self ..)
    obtain ⟨b0, b1, b2⟩ := (unhide HK6).three (g := g) (List.mem_cons_of_mem _ (List.mem_cons_self ..))
    obtain ⟨c0, c1, c2⟩ := (unhide HK6).three (g := B4) (List.mem_cons_of_mem _ (List.mem_cons_of_mem _ (List.mem_cons_self ..)))
    obtain ⟨d0, d1, d2⟩ := (unhide HK6).three (g := B3) (List.mem_cons_of_mem _ (List.mem_cons_of_mem _ (List.mem_cons_of_mem _ (List.mem_cons_self ..))))
    have hcase := torn_cases (unhide HF0) (unhide HF1) (unhide HR0) (unhide HR1) (unhide HNE) hk33 (unhide HX) (unhide HY) (unhide HAA) (unhide HBB) (unhide HH) (unhide HH3)
    generalize isHead A = I at *
    generalize isHead B = J at *
    clear HH HH3 HAA HBB HX HY hne
    have n1 : ¬ (s1 : Int) = (s0 : Int) := by omega
    have n2 : ((s1 : Int) == (s0 : Int)) = false := beq_eq_false_iff_ne.2 n1
    have i1 : (k = 0 → ¬ (k : Int) > 0) := by omega
    rcases hcase with ⟨hk, rfl, rfl, h1⟩ | ⟨hk, rfl, rfl, h1, h2⟩ | ⟨hk1, hk2, h1, h2⟩
    · subst hk
      obtain ⟨rfl, rfl, rfl⟩ := HeadD.mk.inj h1
      clear i1
      go_wp2_with fail
      refine (unhide HA _).mono ?_
      rintro e w9 ⟨rfl, hb9⟩
      have HB9 : Hid (Below w.heap.size w w9) := ((unhide HK6).later hb9).bb
      clear hb9
      go_wp2_with fail
      go_ret
      exact ⟨rfl, unhide HB9⟩
    · subst hk
      obtain ⟨rfl, rfl, rfl⟩ := HeadD.mk.inj h1
      obtain ⟨rfl, rfl, rfl⟩ := HeadD.mk.inj h2
      clear i1
      go_wp2_with fail
      refine (unhide HA _).mono ?_
      rintro e w9 ⟨rfl, hb9⟩
      have HB9 : Hid (Below w.heap.size w w9) := ((unhide HK6).later hb9).bb
      clear hb9
      go_wp2_with fail
      go_ret
      exact ⟨rfl, unhide HB9⟩
    · have m1 : (k : Int) < 32 := by omega
      have m2 : (k : Int) > 0 := by omega
      have m3 : 0 < k := by omega
      have m4 : k < 32 := by omega
      clear i1 hk1 hk2
      rcases h1 with rfl | ⟨rfl, h1⟩ | ⟨rfl, h1⟩ <;> rcases h2 with rfl | ⟨rfl, h2⟩
      all_goals (try obtain ⟨rfl, rfl, rfl⟩ := HeadD.mk.inj h1)
      all_goals (try obtain ⟨rfl, rfl, rfl⟩ := HeadD.mk.inj h2)
      all_goals (
        go_wp2_with fail
        refine (unhide HA _).mono ?_
        rintro e w9 ⟨rfl, hb9⟩
        have HB9 : Hid (Below w.heap.size w w9) := ((unhide HK6).later hb9).bb
        clear hb9
        go_wp2_with fail
        go_ret
        exact ⟨rfl, unhide HB9⟩)
  · have hne3 : (hbErr ⟨s0, e0, l0⟩ ≠ 0) ∨ (hbErr ⟨s0, e0, l0⟩ = 0 ∧ hbErr ⟨s1, e1, l1⟩ ≠ 0) ∨ (hbErr ⟨s0, e0, l0⟩ = 0 ∧ hbErr ⟨s1, e1, l1⟩ = 0 ∧ s0 = s1) := by
      unfold hbErr
      cases h1 : (HeadD.mk s0 e0 l0).right <;> cases h2 : (HeadD.mk s1 e1 l1).right <;> simp_all
    obtain ⟨E, hE⟩ : ∃ E, E = hbErr ⟨s0, e0, l0⟩ := ⟨_, rfl⟩
    obtain ⟨F, hF⟩ : ∃ F, F = hbErr ⟨s1, e1, l1⟩ := ⟨_, rfl⟩
    rw [← hE, ← hF] at hne3 ⊢
    clear hok hE hF
    rcases hne3 with h1 | ⟨rfl, h1⟩ | ⟨rfl, rfl, rfl⟩
    all_goals try have h1' := bne_iff_ne.2 h1
    all_goals (
      go_wp2_with fail
      refine (unhide HA _).mono ?_
      rintro e w9 ⟨rfl, hb9⟩
      have HB9 : Hid (Below w.heap.size w w9) := ((unhide HK2).later hb9).bb
      clear hb9
      go_wp2_with fail
      go_ret
      exact ⟨rfl, unhide HB9⟩)
end
end Go.Proofs.Ytoabpjdpdcpdlaa
