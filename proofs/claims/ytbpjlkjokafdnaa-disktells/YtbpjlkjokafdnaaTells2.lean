/- DiskTells: the walk. No statement of the seat is proved here. -/
import Derived.Test.YtbpjlkjokafdnaaStepAll
import Derived.Test.YtbpjlkjokafdnaaTells1
namespace Go.Proofs.Ytbpjlkjokafdnaa
open Go.RowKit

set_option maxRecDepth 100000 in
set_option maxHeartbeats 8000000 in
theorem tells_arg (c : Int) (hc : c < 0 ∨ 1048576 < c) (la : Option Addr) (ln lc : Nat) (w : World) : Calls Try.prog 3 #[.int .i64 c, .slice la ln lc] w fun e w' => e = .returned (.bool true) ∧ Below w.heap.size w w' := by
  have HN := hide (new_arg c hc w)
  rcases hc with hc | hc
  · go_enter Try.func3, Try.ntmps3
    go_wp2_with fail
    refine (unhide HN).mono ?_
    rintro e w' ⟨rfl, rfl⟩
    go_wp2_with fail
    refine (awake_any _).mono ?_
    rintro e w' ⟨rfl, hA⟩
    have HA := hide hA
    clear hA
    go_wp2_with fail
    go_ret
    exact ⟨rfl, unhide HA⟩
  · have h0 : ¬ c < 0 := by omega
    have h1 : c > 1048576 := by omega
    clear hc
    go_enter Try.func3, Try.ntmps3
    go_wp2_with fail
    refine (unhide HN).mono ?_
    rintro e w' ⟨rfl, rfl⟩
    go_wp2_with fail
    refine (awake_any _).mono ?_
    rintro e w' ⟨rfl, hA⟩
    have HA := hide hA
    clear hA
    go_wp2_with fail
    go_ret
    exact ⟨rfl, unhide HA⟩

set_option maxRecDepth 100000 in
set_option maxHeartbeats 16000000 in
theorem tells_ok (c : Int) (hc : 0 ≤ c ∧ c ≤ 1048576) (la : Option Addr) (ln lc : Nat) (hlc : ln ≤ lc) (w : World) (hl : OpsAt w la ln) : Calls Try.prog 3 #[.int .i64 c, .slice la ln lc] w fun e w' => e = .returned (.bool true) ∧ Below w.heap.size w w' := by
  have HL := hide hl
  obtain ⟨p, hp⟩ : ∃ p, p = w.heap.size := ⟨_, rfl⟩
  have HN := hide (new_ok c hc.1 hc.2 w)
  have HP := hide hp
  have h0 : ¬ c < 0 := by omega
  have h1 : ¬ c > 1048576 := by omega
  obtain ⟨m, hm⟩ : ∃ m : Nat, m = min ln 120 := ⟨_, rfl⟩
  have HM : Hid (min (ln : Int) 120 = (m : Int)) := by show min (ln : Int) 120 = (m : Int); omega
  have HML : Hid (m ≤ ln) := by show m ≤ ln; omega
  have hb0 : (0 : Int) ≤ (m : Int) := by omega
  have hb1 : (m : Int) ≤ (lc : Int) := by omega
  have hm120 : m ≤ 120 := by omega
  clear hl hp hc hlc hm
  go_enter Try.func3, Try.ntmps3
  go_wp2_with fail
  refine (unhide HN).mono ?_
  rintro e w1 ⟨rfl, hD, hs1, hbl1⟩
  rw [← unhide HP] at hD hs1 hbl1 ⊢
  have HS1 := hide hs1
  have HB1 := hide hbl1
  have HD1 := hide hD
  clear hD hs1 hbl1 HN
  go_wp2_with fail
  refine (mNew c w1).mono ?_
  rintro e w2 ⟨cs, rfl, hV, hbl2⟩
  obtain ⟨q, hq⟩ : ∃ q, q = w2.heap.size := ⟨_, rfl⟩
  have hT : ∀ z, TW w p q (fun _ => False) cs (AD.new c) (AD.new c) ((w2.alloc (.cells z 33)).setRow q cs) := fun z => TW.start (unhide HP) hq (unhide HD1) (unhide HS1) (unhide HB1) hV hbl2
  have HT0 := hide hT
  have hsh := hV.shape
  have HSH1 := hide hsh.1
  have HSH2 := hide hsh.2
  have HQ := hide hq
  clear hV hbl2 hT hsh hq HD1 HS1 HB1
  go_upto_region 7 with (refine wpList_store_row rfl 33 (.tmp 7) (.tmp 34) rfl w2.heap.size cs rfl rfl _ _ (heap_alloc_new w2 _) (by rw [unhide HSH1]; kernel_rfl) (by rw [unhide HSH1]; rfl) (unhide HSH2) ?_)
  rw [← unhide HQ]
  have HT := hide (unhide HT0 #[.int .i64 0, .slice none 0 0, .slice none 0 0, .slice none 0 0, .slice none 0 0, .slice none 0 0, .slice none 0 0, .slice none 0 0, .slice none 0 0, .bool false, .int .i64 0, .int .i64 0, .bool false])
  generalize World.setRow (World.alloc w2 _) q cs = w3 at *
  clear HT0 HSH1 HSH2 HQ
  go_wp2_with (refine wpList_min2 rfl (.tmp 37) (.const (.int .i64 120)) 3 3 rfl _ _ _ _ rfl rfl ?_; rw [unhide HM])
  go_loopw [41] (fun i W => ∃ (k : Nat) (A : AD) (cs : Array Value), k ≤ m ∧ i = .int .i64 k ∧ TW w p q (fun _ => False) cs A A W) (fun i _ => m - (intOf i).toNat)
  case atStart => exact ⟨0, _, _, Nat.zero_le _, rfl, unhide HT⟩
  case round =>
    obtain ⟨k, A, cs1, hk, rfl, hT1⟩ := hrel
    have HT1 := hide hT1
    clear hT1 HT HM
    by_cases hlt : k < m
    · obtain ⟨b, o, rfl, hops⟩ : ∃ b o, la = some ⟨b, o, none⟩ ∧ ∀ i, i < ln → OpAt w b (o + 8 * i) := by
        rcases unhide HL with h | h
        · have := unhide HML; omega
        · exact h
      obtain ⟨wh, sg, nn, k0, k1, k2, k3, a, n, c2, bs, hr, hbs, hwh, hnn⟩ := hops k (by have := unhide HML; omega)
      have hk1 : (k : Int) < (m : Int) := by omega
      have hcell : ∀ (j : Nat) (x : Value), [Value.int .u8 wh, .int .i64 sg, .int .i64 nn, .slice a n c2, .int .i64 k0, .int .i64 k1, .int .i64 k2, .int .i64 k3][j]? = some x → wr.cell? ⟨b, o + 8 * k + j, none⟩ = some x := fun j x hx => by
        have h := hr j x hx
        rw [(unhide HT1).below.cell (p := ⟨b, o + 8 * k + j, none⟩) (World.block_lt_of_cell? w _ h)]; exact h
      have e8 : k * 8 = 8 * k := by omega
      have c0 : wr.cell? ⟨b, o + 8 * k, none⟩ = some (.int .u8 wh) := hcell 0 _ rfl
      have c1 := hcell 1 _ rfl
      have c2' := hcell 2 _ rfl
      have c3 := hcell 3 _ rfl
      have c4 := hcell 4 _ rfl
      have c5 := hcell 5 _ rfl
      have c6 := hcell 6 _ rfl
      have c7 := hcell 7 _ rfl
      have HBS := hide hbs
      have HWH := hide hwh
      have HNN := hide hnn
      clear hcell hr hops hbs hwh hnn
      go_upto_region 10 with fail
      have hx5 : (wr.alloc (.cells #[.int .u8 wh, .int .i64 sg, .int .i64 nn, .slice a n c2, .int .i64 k0, .int .i64 k1, .int .i64 k2, .int .i64 k3] 37)).heap[wr.heap.size]? = some (.cells #[.int .u8 wh, .int .i64 sg, .int .i64 nn, .slice a n c2, .int .i64 k0, .int .i64 k1, .int .i64 k2, .int .i64 k3] 37 (0, 0)) := heap_alloc_new wr _
      have HT5 : Hid (TW w p q (fun _ => False) cs1 A A (wr.alloc (.cells #[.int .u8 wh, .int .i64 sg, .int .i64 nn, .slice a n c2, .int .i64 k0, .int .i64 k1, .int .i64 k2, .int .i64 k3] 37))) := (unhide HT1).later ((Below.refl _ wr).alloc (Nat.le_refl _) _)
      obtain ⟨g, hg⟩ : ∃ g, g = wr.heap.size := ⟨_, rfl⟩
      rw [← hg] at hx5 ⊢
      generalize World.alloc wr _ = w5 at *
      have y0 : w5.cell? ⟨g, 0, none⟩ = some (.int .u8 wh) := cell_of_row _ _ 0 _ _ _ hx5
      have y1 : w5.cell? ⟨g, 1, none⟩ = some (.int .i64 sg) := cell_of_row _ _ 1 _ _ _ hx5
      have y2 : w5.cell? ⟨g, 2, none⟩ = some (.int .i64 nn) := cell_of_row _ _ 2 _ _ _ hx5
      have y3 : w5.cell? ⟨g, 3, none⟩ = some (.slice a n c2) := cell_of_row _ _ 3 _ _ _ hx5
      have y4 : w5.cell? ⟨g, 4, none⟩ = some (.int .i64 k0) := cell_of_row _ _ 4 _ _ _ hx5
      have y5 : w5.cell? ⟨g, 5, none⟩ = some (.int .i64 k1) := cell_of_row _ _ 5 _ _ _ hx5
      have y6 : w5.cell? ⟨g, 6, none⟩ = some (.int .i64 k2) := cell_of_row _ _ 6 _ _ _ hx5
      have y7 : w5.cell? ⟨g, 7, none⟩ = some (.int .i64 k3) := cell_of_row _ _ 7 _ _ _ hx5
      clear hx5 hg c0 c1 c2' c3 c4 c5 c6 c7 e8 HT1 HL
      go_cut [62] (fun s wx => s = .bool false ∧ ∃ A' cs', TW w p q (fun _ => False) cs' A' A' wx)
      case first =>
        go_region_with (first
          | (go_at_call 12; refine (step_any (unhide HT5).drew wh sg nn k0 k1 k2 k3 a n c2 bs (unhide HBS) (unhide HWH) (unhide HNN)).mono ?_; rintro e w6 ⟨rfl, A', cs', hT6⟩; obtain ⟨v0, v1, v2, v3, v4, v5, v6, v7, v8, v9, v10, v11, v12, rfl⟩ := arr13 hT6.size; obtain ⟨j0, j1, j2, j3, j4, j5, j6, j7, j8, j9, j10, j11, j12⟩ := row13 hT6.row; have HT6 := hide hT6; clear hT6)
          | (go_at_call 13; refine (tFree (unhide HT6)).mono ?_; rintro e w' ⟨rfl, rfl⟩)
          | (go_at_call 14; refine (uFree (unhide HT6)).mono ?_; rintro e w7 ⟨rfl, hb7⟩; have HT7 := hide ((unhide HT6).later hb7); clear hb7; have dd := (unhide HT7).deadCell)
          | (go_at_call 15; refine (tDead (unhide HT7)).mono ?_; rintro e w' ⟨rfl, rfl⟩))
        all_goals (
          go_wp2_with fail
          go_meet
          exact ⟨rfl, A', _, unhide HT7⟩)
      obtain ⟨rfl, A', cs', hT6⟩ := hcut
      obtain ⟨v0, v1, v2, v3, v4, v5, v6, v7, v8, v9, v10, v11, v12, rfl⟩ := arr13 hT6.size
      have HT6 := hide hT6
      clear hT6 y0 y1 y2 y3 y4 y5 y6 y7 HT5 HBS HWH HNN
      go_wp2_with fail
      go_loopw [10] (fun i W => ∃ s : Int, -1 ≤ s ∧ s ≤ 3 ∧ i = .int .i64 s ∧ TW w p q (fun _ => False) #[v0, v1, v2, v3, v4, v5, v6, v7, v8, v9, v10, v11, v12] A' A' W) (fun i _ => (3 - intOf i).toNat)
      case atStart => exact ⟨-1, by omega, by omega, rfl, unhide HT6⟩
      case round =>
        obtain ⟨s, hs0, hs1, rfl, hT7⟩ := hrel
        have HT7 := hide hT7
        clear hT7 HT6
        by_cases hs2 : s ≤ 2
        · go_wp2_with fail
          refine (tRead (unhide HT7) s).mono ?_
          rintro e w8 ⟨r1, rfl, hF1⟩
          have HF1 := hide hF1
          clear hF1
          go_wp2_with fail
          refine (tHead ((unhide HT7).later (unhide HF1).1.2.2) s).mono ?_
          rintro e w9 ⟨r2, rfl, hF2⟩
          have hI := IN.start (unhide HT7) (unhide HF1) hF2
          have hl1 := rd_len (unhide HT7).ok s
          have hl2 := hd_len (unhide HT7).ok s
          obtain ⟨a1, c1', hr1, _⟩ := (unhide HF1).1.1.form
          obtain ⟨a2, c2', hr2, _⟩ := hF2.1.1.form
          obtain ⟨n1, hn1⟩ : ∃ n1, n1 = (rd A' s).length := ⟨_, rfl⟩
          obtain ⟨n2, hn2⟩ : ∃ n2, n2 = (hdOf A' s).length := ⟨_, rfl⟩
          rw [← hn1] at hr1 hl1
          rw [← hn2] at hr2 hl2
          subst hr1 hr2
          have HN1 := hide hn1
          have HN2 := hide hn2
          have HI := hide hI
          obtain ⟨j0, j1, j2, j3, j4, j5, j6, j7, j8, j9, j10, j11, j12⟩ := row13 hI.tw.row
          clear hI hF2 HF1 HT7 hn1 hn2
          go_wp2_with fail
          refine (uRead (unhide HI).tw s).mono ?_
          rintro e w10 ⟨r3, rfl, hB3, hb3⟩
          have HI2 := hide ((unhide HI).later hb3)
          have HB3 := hide hB3
          clear hB3 hb3 HI j0 j1 j2 j3 j4 j5 j6 j7 j8 j9 j10 j11 j12
          obtain ⟨j0, j1, j2, j3, j4, j5, j6, j7, j8, j9, j10, j11, j12⟩ := row13 (unhide HI2).tw.row
          go_wp2_with fail
          refine (same_any _ _ (rd A' s) (rd A' s) _ (bytes_of_owns (unhide HI2).o1) (unhide HB3)).mono ?_
          rintro e w' ⟨rfl, rfl⟩
          clear HB3
          go_wp2_with fail
          refine (uHead (unhide HI2).tw s).mono ?_
          rintro e w11 ⟨r4, rfl, hB4, hb4⟩
          have HI3 := hide ((unhide HI2).later hb4)
          have HB4 := hide hB4
          clear hB4 hb4 HI2 j0 j1 j2 j3 j4 j5 j6 j7 j8 j9 j10 j11 j12
          go_wp2_with fail
          refine (same_any _ _ (hdOf A' s) (hdOf A' s) _ (bytes_of_owns (unhide HI3).o2) (unhide HB4)).mono ?_
          rintro e w' ⟨rfl, rfl⟩
          clear HB4
          go_wp2_with fail
          go_loopw [89] (fun i W => ∃ (t : Nat) (x1 x2 : List UInt8), t ≤ n1 ∧ i = .int .i64 t ∧ x1.length = n1 ∧ x2.length = n2 ∧ IN w p q (.slice a1 n1 c1') (.slice a2 n2 c2') x1 x2 #[v0, v1, v2, v3, v4, v5, v6, v7, v8, v9, v10, v11, v12] A' W) (fun i _ => n1 - (intOf i).toNat)
          case atStart => exact ⟨0, _, _, Nat.zero_le _, rfl, (unhide HN1).symm, (unhide HN2).symm, unhide HI3⟩
          case round =>
            obtain ⟨t, x1, x2, ht, rfl, hx1, hx2, hI⟩ := hrel
            clear HI3 HN1 HN2
            by_cases hlt1 : t < n1
            · obtain ⟨bb, xx, hra, hy0, hy1, hcc, hff, hset⟩ := hI.at1 hx1 hlt1
              subst hra
              have ht1 : (t : Int) < (n1 : Int) := by omega
              have HS := hide hset
              have HX2 := hide hx2
              clear hI hset hx1 hx2
              go_wp2_with fail
              obtain ⟨x1', hx1', hI'⟩ := unhide HS ((xx + 1) % 256) (by omega) (by omega)
              exact ⟨⟨t + 1, x1', x2, by omega, by go_num, hx1', unhide HX2, hI'⟩, by simp [intOf]; omega⟩
            · have HI4 := hide hI
              have HX1 := hide hx1
              have HX2 := hide hx2
              clear hI hx1 hx2
              go_wp2_with fail
              go_loopw [101] (fun i W => ∃ (t : Nat) (x2 : List UInt8), t ≤ n2 ∧ i = .int .i64 t ∧ x2.length = n2 ∧ IN w p q (.slice a1 n1 c1') (.slice a2 n2 c2') x1 x2 #[v0, v1, v2, v3, v4, v5, v6, v7, v8, v9, v10, v11, v12] A' W) (fun i _ => n2 - (intOf i).toNat)
              case atStart => exact ⟨0, _, Nat.zero_le _, rfl, unhide HX2, unhide HI4⟩
              case round =>
                obtain ⟨t2, x3, ht2, rfl, hx3, hI⟩ := hrel
                clear HI4 HX1 HX2
                by_cases hlt2 : t2 < n2
                · obtain ⟨bb, xx, hra, hy0, hy1, hcc, hff, hset⟩ := hI.at2 hx3 hlt2
                  subst hra
                  have ht1 : (t2 : Int) < (n2 : Int) := by omega
                  have HS := hide hset
                  clear hI hset hx3
                  go_wp2_with fail
                  obtain ⟨x2', hx2', hI'⟩ := unhide HS ((xx + 1) % 256) (by omega) (by omega)
                  exact ⟨⟨t2 + 1, x2', by omega, by go_num, hx2', hI'⟩, by simp [intOf]; omega⟩
                · have HT9 := hide (hI.tw.fewer (fun _ => False) (fun _ h => h.elim))
                  clear hI
                  go_wp2_with fail
                  exact ⟨⟨s + 1, by omega, by omega, by go_num, unhide HT9⟩, by simp [intOf]; omega⟩
        · go_wp2_with fail
          exact ⟨⟨k + 1, A', _, by omega, by go_num, unhide HT7⟩, by simp [intOf]; omega⟩
    · go_wp2_with fail
      refine (awake_any _).mono ?_
      rintro e W' ⟨rfl, hA⟩
      have HA := hide hA
      clear hA
      go_wp2_with fail
      go_ret
      exact ⟨rfl, (unhide HT1).below.trans ((unhide HA).mono (unhide HT1).below.size)⟩
end Go.Proofs.Ytbpjlkjokafdnaa
