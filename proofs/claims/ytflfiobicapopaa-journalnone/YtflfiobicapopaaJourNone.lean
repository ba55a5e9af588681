/- JournalNone, walked. -/
import Derived.Test.YtflfiobicapopaaBase14
import Derived.Test.YtflfiobicapopaaBase06
namespace Go.Proofs.Ytflfiobicapopaa
open Go.RowKit

theorem dead_none {A : AD} (hd : A.dead = true) (h : HeadD) (rows : List (List UInt8)) (ok : okRows rows) : loadE A = 3 ∧ fmE A = 3 ∧ fmD A = A ∧ jaE A h rows = 3 ∧ jaD A h rows = A ∧ jsE A h rows = 3 := by
  have l3 : loadE A = 3 := by simp [loadE, hd]
  have e0 := bputErr_zero.2 ok
  have p1 : ∀ i, puE A i (bputOf rows) = 3 := fun i => by
    have : apE A (bputOf rows).length = 3 := by simp [apE, hd]
    rw [puE, if_neg (by rw [this]; decide), this]
  have p2 : ∀ i, puD A i (bputOf rows) = A := fun i => by
    have : apE A (bputOf rows).length = 3 := by simp [apE, hd]
    rw [puD, if_neg (by rw [this]; decide)]
    simp [apD, hd]
  refine ⟨l3, if_pos l3, if_pos l3, by rw [jaE, if_pos e0, p1], by rw [jaD, if_pos e0, p2], ?_⟩
  rw [jsE, if_pos e0, swE, if_pos (by rw [p1]; decide), p1]

set_option maxRecDepth 100000 in
set_option maxHeartbeats 8000000 in
theorem journalNone_any (u : Value) (rows : List (List UInt8)) (w : World) (hr : RowsAt w u rows) (hl : rows.length ≤ 140737488355328) : Calls Try.prog 7 #[u] w fun x w' => x = .returned (.bool true) ∧ Below w.heap.size w w' := by
  obtain ⟨ua, uc, rfl, _⟩ := hr.form
  obtain ⟨n, hn⟩ : ∃ n, n = rows.length := ⟨_, rfl⟩
  rw [← hn] at hr hl ⊢
  have HR := hide hr
  have HL := hide hl
  have HN := hide hn
  have hz := run_zeroDisk
  clear hr hl hn
  by_cases h5 : n ≤ 5
  · have h5' : ¬ (n : Int) > 5 := by omega
    go_enter Try.func7, Try.ntmps7
    go_wp2_with fail
    refine (low_bytes _ rows _ (unhide HR) (by rw [← unhide HN]; exact unhide HL)).mono ?_
    rintro x W2 ⟨rfl, rfl⟩
    generalize wrap64 ((total rows : Nat) : Int) = tb at *
    by_cases ht : tb > 500
    · go_wp2_with fail
      refine (jawake_any _).mono ?_
      rintro x W3 ⟨rfl, hb⟩
      have HB := hide hb
      clear hb
      go_wp2_with fail
      go_ret
      exact ⟨rfl, unhide HB⟩
    · have HB0 := hide ((Below.refl _ W2).alloc (Nat.le_refl _) (.cells #[.pointer none, .pointer none, .int .u64 0, .int .u64 0, .int .u8 0] 66))
      have HB1 := hide ((unhide HB0).alloc (unhide HB0).size (.cells #[.pointer none, .pointer (some ⟨W2.heap.size, 0, none⟩)] 30))
      have HZ := hide (heap_alloc_new W2 (.cells #[.pointer none, .pointer none, .int .u64 0, .int .u64 0, .int .u8 0] 66))
      have HZ1 : Hid (((W2.alloc (.cells #[.pointer none, .pointer none, .int .u64 0, .int .u64 0, .int .u8 0] 66)).alloc (.cells #[.pointer none, .pointer (some ⟨W2.heap.size, 0, none⟩)] 30)).heap[W2.heap.size]? = some (.cells #[.pointer none, .pointer none, .int .u64 0, .int .u64 0, .int .u8 0] 66 (0, 0))) := (Below.heap_alloc _ _ _ (by simp)).trans (unhide HZ)
      have HS1 : Hid (((W2.alloc (.cells #[.pointer none, .pointer none, .int .u64 0, .int .u64 0, .int .u8 0] 66)).alloc (.cells #[.pointer none, .pointer (some ⟨W2.heap.size, 0, none⟩)] 30)).heap[W2.heap.size + 1]? = some (.cells #[.pointer none, .pointer (some ⟨W2.heap.size, 0, none⟩)] 30 (0, 0))) := by
        have h := heap_alloc_new (W2.alloc (.cells #[.pointer none, .pointer none, .int .u64 0, .int .u64 0, .int .u8 0] 66)) (.cells #[.pointer none, .pointer (some ⟨W2.heap.size, 0, none⟩)] 30)
        rw [World.size_alloc] at h
        exact h
      clear HB0 HZ
      go_upto_region 4 with fail
      generalize (W2.alloc (.cells #[.pointer none, .pointer none, .int .u64 0, .int .u64 0, .int .u8 0] 66)).alloc (.cells #[.pointer none, .pointer (some ⟨W2.heap.size, 0, none⟩)] 30) = W3 at *
      have HR3 := hide ((unhide HR).later (unhide HB1))
      obtain ⟨zb, hzb⟩ : ∃ zb, W2.heap.size = zb := ⟨_, rfl⟩
      rw [hzb] at HZ1 HS1 ⊢
      have HB2 : Hid (Below W2.heap.size W2 W3) := HB1
      clear HB1
      have HZB := hide hzb
      clear hzb
      go_loopw [27] (fun i W => ∃ j : Nat, j ≤ 2 ∧ i = .int .i64 j ∧ Below W3.heap.size W3 W) (fun i _ => 2 - (intOf i).toNat)
      case atStart => exact ⟨0, by omega, rfl, Below.refl _ _⟩
      case round =>
        obtain ⟨j, hj, rfl, hB⟩ := hrel
        have HB := hide hB
        have HRj := hide ((unhide HR3).later hB)
        have hs : ∀ k, wr.cell? ⟨zb + 1, k, none⟩ = (#[.pointer none, .pointer (some ⟨zb, 0, none⟩)] : Array Value)[k]? := fun k => cell_of_row _ _ k _ _ _ ((hB.block _ (Array.getElem?_eq_some_iff.1 (unhide HS1)).1).trans (unhide HS1))
        have hz0 : wr.cell? ⟨zb, 0, none⟩ = some (.pointer none) := cell_of_row _ _ 0 _ _ _ ((hB.block _ (Array.getElem?_eq_some_iff.1 (unhide HZ1)).1).trans (unhide HZ1))
        clear hB
        rcases (show j = 0 ∨ j = 1 ∨ j = 2 by omega) with rfl | rfl | rfl
        · have s0 : wr.cell? ⟨zb + 1, 0, none⟩ = some (.pointer none) := hs 0
          have HN0 : Hid (NoJour wr (.pointer none)) := .inl rfl
          clear hs hz0
          have HBx := hide (Below.refl wr.heap.size wr)
          go_wp2_with fail
          refine (jappend_none (unhide HN0) _ _ _).mono ?_
          rintro x W4 ⟨rfl, hb⟩
          have HBy : Hid (Below wr.heap.size wr W4) := (unhide HBx).trans (hb.mono (unhide HBx).size)
          clear hb HBx
          have HBx := HBy
          clear HBy
          clear s0
          go_wp2_with fail
          refine (jswitch_none (NoJour.kept (unhide HN0) (unhide HBx)) _ _ _).mono ?_
          rintro x W5 ⟨rfl, hb⟩
          have HBy : Hid (Below wr.heap.size wr W5) := (unhide HBx).trans (hb.mono (unhide HBx).size)
          clear hb HBx
          have HBx := HBy
          clear HBy
          go_wp2_with fail
          refine (jfree_none (NoJour.kept (unhide HN0) (unhide HBx))).mono ?_
          rintro x W6 ⟨rfl, rfl⟩
          go_wp2_with fail
          refine (jsize_none (NoJour.kept (unhide HN0) (unhide HBx))).mono ?_
          rintro x W7 ⟨rfl, rfl⟩
          go_wp2_with fail
          refine (jhead_none (NoJour.kept (unhide HN0) (unhide HBx))).mono ?_
          rintro x W8 ⟨rfl, hb⟩
          have HBy : Hid (Below wr.heap.size wr W8) := (unhide HBx).trans (hb.mono (unhide HBx).size)
          clear hb HBx HN0
          go_wp2_with fail
          exact ⟨⟨1, by omega, rfl, (unhide HB).trans ((unhide HBy).mono (unhide HB).size)⟩, by simp [intOf]⟩
        · have s0 : wr.cell? ⟨zb + 1, 1, none⟩ = some (.pointer (some ⟨zb, 0, none⟩)) := hs 1
          have HN0 : Hid (NoJour wr (.pointer (some ⟨zb, 0, none⟩))) := .inr ⟨zb, rfl, hz0⟩
          clear hs hz0
          have HBx := hide (Below.refl wr.heap.size wr)
          go_wp2_with fail
          refine (jappend_none (unhide HN0) _ _ _).mono ?_
          rintro x W4 ⟨rfl, hb⟩
          have HBy : Hid (Below wr.heap.size wr W4) := (unhide HBx).trans (hb.mono (unhide HBx).size)
          clear hb HBx
          have HBx := HBy
          clear HBy
          clear s0
          go_wp2_with fail
          refine (jswitch_none (NoJour.kept (unhide HN0) (unhide HBx)) _ _ _).mono ?_
          rintro x W5 ⟨rfl, hb⟩
          have HBy : Hid (Below wr.heap.size wr W5) := (unhide HBx).trans (hb.mono (unhide HBx).size)
          clear hb HBx
          have HBx := HBy
          clear HBy
          go_wp2_with fail
          refine (jfree_none (NoJour.kept (unhide HN0) (unhide HBx))).mono ?_
          rintro x W6 ⟨rfl, rfl⟩
          go_wp2_with fail
          refine (jsize_none (NoJour.kept (unhide HN0) (unhide HBx))).mono ?_
          rintro x W7 ⟨rfl, rfl⟩
          go_wp2_with fail
          refine (jhead_none (NoJour.kept (unhide HN0) (unhide HBx))).mono ?_
          rintro x W8 ⟨rfl, hb⟩
          have HBy : Hid (Below wr.heap.size wr W8) := (unhide HBx).trans (hb.mono (unhide HBx).size)
          clear hb HBx HN0
          go_wp2_with fail
          exact ⟨⟨2, by omega, rfl, (unhide HB).trans ((unhide HBy).mono (unhide HB).size)⟩, by simp [intOf]⟩
        · have HB5 : Hid (Below W2.heap.size W2 wr) := (unhide HB2).trans ((unhide HB).mono (unhide HB2).size)
          clear hs hz0 HRj HB HR3
          go_wp2_with fail
          refine (made_any (unhide HB5) 100 (by decide) (by decide)).mono ?_
          rintro x W4 ⟨p, g, A, rfl, hJ, hc, hp⟩
          have HJ := hide hJ
          clear hJ hc hp
          go_wp2_with fail
          refine (kjFuse (unhide HJ).kj 0 0 (by decide)).mono ?_
          rintro x W5 ⟨rfl, hk⟩
          have HK5 := hide hk
          have HLV := hide (unhide HJ).run.live
          clear hk HJ
          go_wp2_with fail
          refine (kjSyncHead (unhide HK5)).mono ?_
          rintro x W6 ⟨rfl, hk⟩
          obtain ⟨A2, hA2⟩ : ∃ A2, shA (fuD A 0 0) = A2 := ⟨_, rfl⟩
          have HD : Hid (A2.dead = true) := by
            show _ = _
            rw [← hA2, fuD, unhide HLV]
            show (shA (A.fused 0 0)).dead = true
            have h1 : (A.fused 0 0).dead = false := unhide HLV
            have h2 : (A.fused 0 0).calls = 0 := rfl
            simp [shA, h1, h2]
          rw [hA2] at hk
          have HK6 := hide hk
          clear hk hA2 HK5 HLV
          go_upto_region 14 with fail
          have HK7 := hide ((unhide HK6).new (.cells zDisk 79))
          have HK8 := hide ((unhide HK7).newAt (n := W6.heap.size + 1) (.cells #[.pointer none, .pointer (some ⟨W6.heap.size, 0, none⟩), .pointer (some ⟨p, 0, none⟩)] 29) (by simp))
          clear HK6 HK7
          go_upto_region 15 with fail
          clear hz
          generalize (W6.alloc (.cells zDisk 79)).alloc (.cells #[.pointer none, .pointer (some ⟨W6.heap.size, 0, none⟩), .pointer (some ⟨p, 0, none⟩)] 29) = W7 at *
          generalize W6.heap.size = z at *
          go_loopw [74] (fun i W => ∃ j : Nat, j ≤ 3 ∧ i = .int .i64 j ∧ Kj W2 W [] ((z + 1, Obj.cells #[.pointer none, .pointer (some ⟨z, 0, none⟩), .pointer (some ⟨p, 0, none⟩)] 29 (0, 0)) :: (z, Obj.cells zDisk 79 (0, 0)) :: MJ [] g p 66 ⟨2, 1, 0⟩) p A2) (fun i _ => 3 - (intOf i).toNat)
          case atStart => exact ⟨0, by omega, rfl, unhide HK8⟩
          case round =>
            obtain ⟨j, hj, rfl, hK⟩ := hrel
            have HKr := hide hK
            have hs : ∀ k, wr.cell? ⟨z + 1, k, none⟩ = (#[.pointer none, .pointer (some ⟨z, 0, none⟩), .pointer (some ⟨p, 0, none⟩)] : Array Value)[k]? := fun k => hK.cell (List.mem_cons_self ..) k
            have hzd : wr.cell? ⟨z, 0, none⟩ = some (.pointer none) := by rw [hK.cell (g := z) (cs := zDisk) (t := 79) (List.mem_cons_of_mem _ (List.mem_cons_self ..)) 0]; kernel_rfl
            clear hK HK8
            rcases (show j = 0 ∨ j = 1 ∨ j = 2 ∨ j = 3 by omega) with rfl | rfl | rfl | rfl
            · have s0 : wr.cell? ⟨z + 1, 0, none⟩ = some (.pointer none) := hs 0
              have HN0 : Hid (NoDisk wr (.pointer none)) := .inl rfl
              clear hs hzd
              go_wp2_with fail
              refine (jopen_none (unhide HN0)).mono ?_
              rintro x W8 ⟨rfl, hb⟩
              have HK9 := hide ((unhide HKr).later hb)
              have HN1 := hide ((unhide HN0).kept hb (Nat.le_refl _))
              clear hb s0 HN0 HKr
              go_wp2_with fail
              refine (jformat_none (unhide HN1)).mono ?_
              rintro x W9 ⟨rfl, hb⟩
              have HK10 := hide ((unhide HK9).later hb)
              clear hb HK9 HN1
              go_wp2_with fail
              exact ⟨⟨1, by omega, rfl, unhide HK10⟩, by simp [intOf]⟩
            · have s0 : wr.cell? ⟨z + 1, 1, none⟩ = some (.pointer (some ⟨z, 0, none⟩)) := hs 1
              have HN0 : Hid (NoDisk wr (.pointer (some ⟨z, 0, none⟩))) := .inr ⟨z, rfl, hzd⟩
              clear hs hzd
              go_wp2_with fail
              refine (jopen_none (unhide HN0)).mono ?_
              rintro x W8 ⟨rfl, hb⟩
              have HK9 := hide ((unhide HKr).later hb)
              have HN1 := hide ((unhide HN0).kept hb (Nat.le_refl _))
              clear hb s0 HN0 HKr
              go_wp2_with fail
              refine (jformat_none (unhide HN1)).mono ?_
              rintro x W9 ⟨rfl, hb⟩
              have HK10 := hide ((unhide HK9).later hb)
              clear hb HK9 HN1
              go_wp2_with fail
              exact ⟨⟨2, by omega, rfl, unhide HK10⟩, by simp [intOf]⟩
            · have s0 : wr.cell? ⟨z + 1, 2, none⟩ = some (.pointer (some ⟨p, 0, none⟩)) := hs 2
              clear hs hzd
              obtain ⟨e1, e2, e3, _⟩ := dead_none (unhide HD) ⟨2, 1, 0⟩ [[1]] ⟨by decide, by decide⟩
              have HE1 := hide e1
              have HE2 := hide e2
              have HE3 := hide e3
              clear e1 e2 e3
              go_wp2_with fail
              refine (kjOpen (unhide HKr)).mono ?_
              rintro x W8 (⟨_, hx, hk⟩ | ⟨hne, _⟩)
              case inr => exact absurd ((unhide HE1).symm.trans hne) (by decide)
              rw [unhide HE1] at hx
              subst hx
              have HK9 := hide hk
              clear hk s0 HKr
              go_wp2_with fail
              refine (kjFormat (unhide HK9)).mono ?_
              rintro x W9 ⟨rfl, hk⟩
              rw [unhide HE2]
              rw [unhide HE3] at hk
              have HK10 := hide hk
              clear hk HK9
              go_wp2_with fail
              exact ⟨⟨3, by omega, rfl, unhide HK10⟩, by simp [intOf]⟩
            · clear hs hzd
              obtain ⟨e1, e2, e3, e4, e5, e6⟩ := dead_none (unhide HD) ⟨2, 1, 0⟩ [[1]] ⟨by decide, by decide⟩
              have HE4 := hide e4
              have HE5 := hide e5
              have HE6 := hide e6
              clear e1 e2 e3 e4 e5 e6
              have HKM := hide ((unhide HKr).drop 2)
              clear HKr
              go_wp2_with fail
              obtain ⟨hr5, hb5⟩ := lit_row wr #[.int .u8 1] (0, 0) [1] 1 rfl rfl (by decide)
              refine (kjJAppend (h := ⟨2, 1, 0⟩) ((unhide HKM).later hb5) (by decide) (List.mem_cons_self ..) _ [[1]] hr5).mono ?_
              rintro x W8 ⟨rfl, hk⟩
              rw [unhide HE4]
              rw [unhide HE5] at hk
              have HK9 := hide hk
              clear hk hr5 hb5 HKM
              go_wp2_with fail
              obtain ⟨hr5, hb5⟩ := lit_row W8 #[.int .u8 1] (0, 0) [1] 1 rfl rfl (by decide)
              refine (kjJSwitch (M := []) (tj := 66) (h := ⟨2, 1, 0⟩) ((unhide HK9).later hb5) (by decide) ⟨by decide, by decide, by decide⟩ _ [[1]] hr5).mono ?_
              rintro x W9 ⟨rfl, hk⟩
              rw [unhide HE6]
              have HB9 := hide hk.bb
              clear hk hr5 hb5 HK9
              go_wp2_with fail
              refine (jawake_any _).mono ?_
              rintro x W10 ⟨rfl, hb⟩
              have HB10 := hide ((unhide HB9).trans (hb.mono (unhide HB9).size))
              clear hb HB9
              go_wp2_with fail
              go_ret
              exact ⟨rfl, unhide HB10⟩
  · have h5' : (n : Int) > 5 := by omega
    go_enter Try.func7, Try.ntmps7
    go_wp2_with fail
    refine (jawake_any _).mono ?_
    rintro x W3 ⟨rfl, hb⟩
    have HB := hide hb
    clear hb
    go_wp2_with fail
    go_ret
    exact ⟨rfl, unhide HB⟩
end Go.Proofs.Ytflfiobicapopaa
