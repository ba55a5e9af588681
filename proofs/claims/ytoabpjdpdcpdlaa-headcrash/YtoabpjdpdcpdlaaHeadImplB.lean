/- What laid and Bytes of package head answer. No statement of the seat is proved here. -/
import Derived.Test.YtoabpjdpdcpdlaaHeadImplA
namespace Go.Proofs.Ytoabpjdpdcpdlaa
open Go.RowKit

theorem laid_list (s e l : Nat) : eightAt ((eightAt (eightAt (List.replicate 32 0) 0 s 8) 8 e 8).set 16 (UInt8.ofNat l)) 24 s 8 = (HeadD.mk s e l).bytes := by
  simp [eightAt, HeadD.bytes, eight, List.replicate, List.range, List.range.loop]

theorem z32_eq : (#[.int .u8 0, .int .u8 0, .int .u8 0, .int .u8 0, .int .u8 0, .int .u8 0, .int .u8 0, .int .u8 0, .int .u8 0, .int .u8 0, .int .u8 0, .int .u8 0, .int .u8 0, .int .u8 0, .int .u8 0, .int .u8 0, .int .u8 0, .int .u8 0, .int .u8 0, .int .u8 0, .int .u8 0, .int .u8 0, .int .u8 0, .int .u8 0, .int .u8 0, .int .u8 0, .int .u8 0, .int .u8 0, .int .u8 0, .int .u8 0, .int .u8 0, .int .u8 0] : Array Value) = ((List.replicate 32 (0 : UInt8)).map bv).toArray := by rfl
theorem Arr.start (X : World) (g : Nat) (hg : X.heap.size = g) : Arr X g (List.replicate 32 0) (X.alloc (.cells #[.int .u8 0, .int .u8 0, .int .u8 0, .int .u8 0, .int .u8 0, .int .u8 0, .int .u8 0, .int .u8 0, .int .u8 0, .int .u8 0, .int .u8 0, .int .u8 0, .int .u8 0, .int .u8 0, .int .u8 0, .int .u8 0, .int .u8 0, .int .u8 0, .int .u8 0, .int .u8 0, .int .u8 0, .int .u8 0, .int .u8 0, .int .u8 0, .int .u8 0, .int .u8 0, .int .u8 0, .int .u8 0, .int .u8 0, .int .u8 0, .int .u8 0, .int .u8 0] 65)) := by
  subst hg
  refine ⟨?_, Nat.le_refl _, (Below.refl _ X).alloc (Nat.le_refl _) _⟩
  rw [heap_alloc_new, z32_eq]

theorem info32 : (Try.prog.info? 65).map (·.size) = some 32 := by kernel_rfl
theorem below_setRow {B : Nat} (w : World) (g : Nat) (cs : Array Value) (h : B ≤ g) : Below B w (w.setRow g cs) :=
  ⟨rfl, rfl, rfl, by simp [World.setRow], fun k hk => setRow_other _ _ _ _ (by omega)⟩

set_option maxRecDepth 100000 in
set_option maxHeartbeats 4000000 in
theorem hLaid_any (s e l : Nat) (w : World) (hf : (HeadD.mk s e l).fits) : Calls Try.prog 33 #[.agg #[.int .u64 ((s : Nat) : Int), .int .u64 ((e : Nat) : Int), .int .u8 ((l : Nat) : Int)]] w fun e' w' => e' = .returned (.agg (((HeadD.mk s e l).bytes).map bv).toArray) ∧ Below w.heap.size w w' := by
  obtain ⟨X, hX⟩ : ∃ X, X = (w.alloc (.cells #[.int .u64 ((s : Nat) : Int), .int .u64 ((e : Nat) : Int), .int .u8 ((l : Nat) : Int)] 24)).alloc (.cells #[.int .u8 0, .int .u8 0, .int .u8 0, .int .u8 0, .int .u8 0, .int .u8 0, .int .u8 0, .int .u8 0, .int .u8 0, .int .u8 0, .int .u8 0, .int .u8 0, .int .u8 0, .int .u8 0, .int .u8 0, .int .u8 0, .int .u8 0, .int .u8 0, .int .u8 0, .int .u8 0, .int .u8 0, .int .u8 0, .int .u8 0, .int .u8 0, .int .u8 0, .int .u8 0, .int .u8 0, .int .u8 0, .int .u8 0, .int .u8 0, .int .u8 0, .int .u8 0] 65) := ⟨_, rfl⟩
  have hXs : X.heap.size = w.heap.size + 1 + 1 := by rw [hX]; simp
  have HX0 : Hid (X.heap[w.heap.size]? = some (.cells #[.int .u64 ((s : Nat) : Int), .int .u64 ((e : Nat) : Int), .int .u8 ((l : Nat) : Int)] 24 (0, 0))) := by
    show _ = _
    rw [hX, Below.heap_alloc _ _ _ (by simp), heap_alloc_new]
  have HX1 : Hid (X.heap[w.heap.size + 1]? = some (.cells ((List.replicate 32 (0 : UInt8)).map bv).toArray 65 (0, 0))) := by
    show _ = _
    have e := heap_alloc_new (w.alloc (.cells #[.int .u64 ((s : Nat) : Int), .int .u64 ((e : Nat) : Int), .int .u8 ((l : Nat) : Int)] 24)) (.cells #[.int .u8 0, .int .u8 0, .int .u8 0, .int .u8 0, .int .u8 0, .int .u8 0, .int .u8 0, .int .u8 0, .int .u8 0, .int .u8 0, .int .u8 0, .int .u8 0, .int .u8 0, .int .u8 0, .int .u8 0, .int .u8 0, .int .u8 0, .int .u8 0, .int .u8 0, .int .u8 0, .int .u8 0, .int .u8 0, .int .u8 0, .int .u8 0, .int .u8 0, .int .u8 0, .int .u8 0, .int .u8 0, .int .u8 0, .int .u8 0, .int .u8 0, .int .u8 0] 65)
    rw [hX, ← z32_eq]
    simpa using e
  have HXB : Hid (Below w.heap.size w X) := by
    show Below _ _ _
    rw [hX]
    exact ((Below.refl _ w).alloc (Nat.le_refl _) _).alloc (by simp) _
  have HA := hide (Arr.start X (w.heap.size + 1 + 1) hXs)
  have HL := hide (HeadD.mk s e l).bytes_len
  obtain ⟨bs, hbs⟩ : ∃ bs, bs = (HeadD.mk s e l).bytes := ⟨_, rfl⟩
  rw [← hbs] at HL ⊢
  have HBS := hide hbs.symm
  clear hbs
  obtain ⟨hs, he, hl⟩ := hf
  simp only at hs he hl
  go_enter Try.func33, Try.ntmps33
  go_upto_region 2 with fail
  rw [← hX]
  clear hX
  generalize X.alloc (.cells #[.int .u8 0, .int .u8 0, .int .u8 0, .int .u8 0, .int .u8 0, .int .u8 0, .int .u8 0, .int .u8 0, .int .u8 0, .int .u8 0, .int .u8 0, .int .u8 0, .int .u8 0, .int .u8 0, .int .u8 0, .int .u8 0, .int .u8 0, .int .u8 0, .int .u8 0, .int .u8 0, .int .u8 0, .int .u8 0, .int .u8 0, .int .u8 0, .int .u8 0, .int .u8 0, .int .u8 0, .int .u8 0, .int .u8 0, .int .u8 0, .int .u8 0, .int .u8 0] 65) = w1 at *
  have HC : Hid (∀ bs W, Arr X (w.heap.size + 1 + 1) bs W → W.cell? ⟨w.heap.size, 0, none⟩ = some (.int .u64 ((s : Nat) : Int)) ∧ W.cell? ⟨w.heap.size, 1, none⟩ = some (.int .u64 ((e : Nat) : Int)) ∧ W.cell? ⟨w.heap.size, 2, none⟩ = some (.int .u8 ((l : Nat) : Int))) := fun bs W h => by
    have hk := (h.bb.block w.heap.size (by omega)).trans (unhide HX0)
    exact ⟨cell_of_row _ _ 0 _ _ _ hk, cell_of_row _ _ 1 _ _ _ hk, cell_of_row _ _ 2 _ _ _ hk⟩
  have HXS := hide hXs
  clear hXs
  have c0 := (unhide HC _ _ (unhide HA)).1
  go_cut [] (fun wx => Arr X (w.heap.size + 1 + 1) (eightAt (List.replicate 32 0) 0 s 8) wx)
  case first =>
    go_region_with (go_at_call 59; refine (hPut_any ((unhide HA).drewN _) 0 s hs (by simp)).mono ?_; rintro e w' ⟨rfl, hA⟩)
    all_goals (go_wp2_with fail; go_meet; exact hA)
  have HA2 := hide hcut
  clear hcut HA c0
  generalize wc = w2 at *
  have c1 := (unhide HC _ _ (unhide HA2)).2.1
  go_upto_region 3 with fail
  go_cut [] (fun wx => Arr X (w.heap.size + 1 + 1) (eightAt (eightAt (List.replicate 32 0) 0 s 8) 8 e 8) wx)
  case first =>
    go_region_with (go_at_call 59; refine (hPut_any ((unhide HA2).drewN _) 8 e he (by rw [eightAt_len]; simp)).mono ?_; rintro e w' ⟨rfl, hA⟩)
    all_goals (go_wp2_with fail; go_meet; exact hA)
  have HA3 := hide hcut
  clear hcut HA2 c1
  generalize wc = w3 at *
  have c2 := (unhide HC _ _ (unhide HA3)).2.2
  have hk16 : 16 < (eightAt (eightAt (List.replicate 32 0) 0 s 8) 8 e 8).length := by rw [eightAt_len, eightAt_len]; simp
  have c16 := (unhide HA3).cell hk16
  have f16 := (unhide HA3).frozen 16
  have HA4 := hide ((unhide HA3).put hk16 l hl)
  generalize ((eightAt (eightAt (List.replicate 32 0) 0 s 8) 8 e 8).getD 16 0).toNat = x16 at c16
  clear hk16 HA3
  go_upto_region 5 with fail
  generalize w3.setCell ⟨w.heap.size + 1 + 1, 16, none⟩ (.int .u8 ((l : Nat) : Int)) = w4 at *
  clear c2 c16 f16
  have c0 := (unhide HC _ _ (unhide HA4)).1
  go_cut [] (fun wx => Arr X (w.heap.size + 1 + 1) bs wx)
  case first =>
    go_region_with (go_at_call 59; refine (hPut_any ((unhide HA4).drewN _) 24 s hs (by rw [List.length_set, eightAt_len, eightAt_len]; simp)).mono ?_; rintro e w' ⟨rfl, hA⟩)
    all_goals (go_wp2_with fail; go_meet; rw [laid_list] at hA; exact unhide HBS ▸ hA)
  have HA5 := hide hcut
  clear hcut HA4 c0
  generalize wc = w5 at *
  have HR : Hid (w5.heap[w.heap.size + 1]? = some (.cells ((List.replicate 32 (0 : UInt8)).map bv).toArray 65 (0, 0))) := ((unhide HA5).bb.block _ (by have := unhide HXS; omega)).trans (unhide HX1)
  have HI : Hid ((Try.prog.info? 65).map (·.size) = some (bs.map bv).toArray.size) := by
    show _ = _
    rw [List.size_toArray, List.length_map, unhide HL]
    exact info32
  have HS : Hid (((List.replicate 32 (0 : UInt8)).map bv).toArray.size = (bs.map bv).toArray.size) := by
    show _ = _
    rw [List.size_toArray, List.size_toArray, List.length_map, List.length_map, unhide HL]
    rfl
  go_wp2_with (first
    | refine wpList_load_row rfl 65 (.tmp 3) rfl (w.heap.size + 1 + 1) rfl _ _ _ _ (unhide HA5).blk Try.underlying65 rfl (unhide HI) ?_
    | refine wpList_store_row rfl 65 (.tmp 2) (.tmp 19) rfl (w.heap.size + 1) (bs.map bv).toArray rfl rfl _ _ (unhide HR) (unhide HI) (unhide HS) (all_oneCell_toArray (bv_one _)) ?_)
  refine bodyPost_ret (results_cell_row rfl _ _ _ _ _ _ _ rfl (setRow_heap _ _ _ _ _ _ (unhide HR)) Try.underlying65 rfl (unhide HI)) rfl ?_
  refine ⟨rfl, (unhide HXB).trans ((((unhide HA5).bb.mono (unhide HXB).size)).trans ?_)⟩
  exact below_setRow _ _ _ (by omega)
end Go.Proofs.Ytoabpjdpdcpdlaa
