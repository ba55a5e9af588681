/- OpBack of foremanlaw10: its walk. No statement of the seat is proved here. -/
import Derived.Test.YtdlbpbglidhlfaaDoorBase13
import Derived.Test.YtdlbpbglidhlfaaDoorBase14
namespace Go.Proofs.YtdlbpbglidhlfaaDoor
open Go.RowKit

theorem OD.bytes_le {o : OD} (h : o.Good) : o.bytes.length ≤ 58000 := by
  have h1 : ∀ n : Int, InR n → (numB n).length ≤ 10 := fun n hn => numB_ten hn
  have i : ∀ n : Int, 0 ≤ n → n ≤ 400 → InR n := fun n h0 h4 => by unfold InR; omega
  have ht := h1 _ h.tk
  rcases OD.right_cases h.rt with ⟨w, a1, a2, a3, _⟩ | ⟨w, a1, _⟩ | ⟨w, a1, _, a3, a4, _⟩ | ⟨w, a1, _⟩
  · rw [OD.bytes_1 w, List.length_append, List.length_append]
    have := h1 1 (i 1 (by omega) (by omega))
    have := h1 _ (i _ a2 a3)
    have := bytesF_le a1
    omega
  · have hx := textB_le4 (idB_len a1).2
    rcases w with w | w
    · rw [OD.bytes_2 w, List.length_append]
      have := h1 2 (i 2 (by omega) (by omega))
      omega
    · rw [OD.bytes_5 w, List.length_append]
      have := h1 5 (i 5 (by omega) (by omega))
      omega
  · have hx := textB_le4 (idB_len a1).2
    rw [OD.bytes_3 w, List.length_append, List.length_append, List.length_append, List.length_append]
    have := h1 3 (i 3 (by omega) (by omega))
    have := bytesF_le a4
    have := VD.right_bytes_le a3 h.vf
    omega
  · have hx := textB_le4 (idB_len a1).2
    rw [OD.bytes_4 w, List.length_append, List.length_append]
    have := h1 4 (i 4 (by omega) (by omega))
    omega

set_option maxRecDepth 100000 in
set_option maxHeartbeats 8000000 in
theorem backLaw_any (o : OD) (u : Value) (a2 : Option Addr) (nb cb : Nat) (bb : List UInt8) (w : World) (hA : o.At (fun _ => True) w u) (h2 : Bytes w (.slice a2 nb cb) bb) (hT : OTab w) :
    Calls Tryd.prog 3 #[u, .slice a2 nb cb] w fun e w' => e = .returned (.bool true) ∧ Below w.heap.size w w' := by
  have HBL := hide (bytes_len h2).1
  have HAX : Hid (∀ X, Below w.heap.size w X → o.At (fun _ => True) X u ∧ Bytes X (.slice a2 nb cb) bb ∧ OTab X) := fun X hX => ⟨hA.later hX, h2.laterW hX, hT.later hX⟩
  have HGD : Hid (o.right = true → o.Good) := fun h => hA.good h
  have HAW : Hid (∀ W, Below w.heap.size w W → Calls Tryd.prog 8 #[] W fun e w' => e = .returned (.bool true) ∧ Below w.heap.size w w') := fun W hW => (oAwake_any W (hT.later hW)).mono fun e w' ⟨h1, h2⟩ => ⟨h1, hW.trans (h2.mono hW.size)⟩
  obtain ⟨L, s, t, K, N, z, va, m, cc, fa, fn, fc, q, rfl, -⟩ := hA.form
  unfold OD.form9 at *
  obtain ⟨W1, hW1⟩ : ∃ W1, W1 = w.alloc (.cells #[.int .u8 ((L : Nat) : Int), .string s, .int .i64 t, .int .u8 ((K : Nat) : Int), .int .i64 N, .string z, .slice va m cc, .slice fa fn fc, .int .i64 q] 27) := ⟨_, rfl⟩
  have hb1 : Below w.heap.size w W1 := by rw [hW1]; exact (Below.refl _ _).alloc (Nat.le_refl _) _
  have hg1 : W1.heap[w.heap.size]? = some (.cells #[.int .u8 ((L : Nat) : Int), .string s, .int .i64 t, .int .u8 ((K : Nat) : Int), .int .i64 N, .string z, .slice va m cc, .slice fa fn fc, .int .i64 q] 27 (0, 0)) := by rw [hW1]; exact heap_alloc_new _ _
  have HKS : Hid (∀ X, Below W1.heap.size W1 X → X.cell? ⟨w.heap.size, 0, none⟩ = some (.int .u8 ((L : Nat) : Int)) ∧ X.cell? ⟨w.heap.size, 1, none⟩ = some (.string s) ∧ X.cell? ⟨w.heap.size, 2, none⟩ = some (.int .i64 t) ∧ X.cell? ⟨w.heap.size, 3, none⟩ = some (.int .u8 ((K : Nat) : Int)) ∧ X.cell? ⟨w.heap.size, 4, none⟩ = some (.int .i64 N) ∧ X.cell? ⟨w.heap.size, 5, none⟩ = some (.string z) ∧ X.cell? ⟨w.heap.size, 6, none⟩ = some (.slice va m cc) ∧ X.cell? ⟨w.heap.size, 7, none⟩ = some (.slice fa fn fc) ∧ X.cell? ⟨w.heap.size, 8, none⟩ = some (.int .i64 q)) := fun X hX => cells9 ((hX.block _ (Array.getElem?_eq_some_iff.1 hg1).1).trans hg1)
  have HB1 := hide hb1
  obtain ⟨d0, d1, d2, d3, d4, d5, d6, d7, d8⟩ := unhide HKS _ (Below.refl _ _)
  clear hA h2 hT hb1 hg1
  go_enter Tryd.func3, Tryd.ntmps3
  go_upto_region 1 with fail
  rw [← hW1]
  clear hW1
  go_wp2_with fail
  refine (oFew_any o _ _ W1 (unhide HAX _ (unhide HB1)).1).mono ?_
  rintro e w2 ⟨⟨f1, rfl, hf1⟩, hb2⟩
  have HB2 := hide hb2
  have HF1 := hide hf1
  clear d0 d1 d2 d3 d4 d5 d6 d7 d8
  obtain ⟨d0, d1, d2, d3, d4, d5, d6, d7, d8⟩ := unhide HKS _ hb2
  have HW2 := hide ((unhide HB1).trans (hb2.mono (unhide HB1).size))
  clear hb2 hf1
  cases f1 with
  | false =>
    go_wp2_with fail
    refine (unhide HAW _ (unhide HW2)).mono ?_
    rintro e w3 ⟨rfl, hb3⟩
    have HB3 := hide hb3
    clear hb3
    go_wp2_with fail
    go_ret
    exact ⟨rfl, unhide HB3⟩
  | true =>
  have HLO : Hid (o.Lt) := (unhide HF1 rfl).lt
  clear HF1
  by_cases hnb : nb > 20
  · have p2 : ((nb : Nat) : Int) > 20 := by omega
    clear hnb
    go_wp2_with fail
    refine (unhide HAW _ (unhide HW2)).mono ?_
    rintro e w3 ⟨rfl, hb3⟩
    have HB3 := hide hb3
    clear hb3
    go_wp2_with fail
    go_ret
    exact ⟨rfl, unhide HB3⟩
  have p2 : ¬ ((nb : Nat) : Int) > 20 := by omega
  have HLM : Hid (nb ≤ 20) := by show _ ≤ _; omega
  clear hnb
  go_upto_region 3 with fail
  clear p2
  go_wp2_with fail
  refine (oBytes_any o _ _ _ (unhide HAX _ (unhide HW2)).1 (unhide HLO) (unhide HAX _ (unhide HW2)).2.2).mono ?_
  rintro e w3 ⟨pa, pn, pc, e1, r1, rfl, hp1, hb3, ho1⟩
  have HP3 := hide hp1
  have HO1 : Hid ((o.right = true ∧ e1 = 0 ∧ r1 = o.bytes) ∨ (o.right = false ∧ e1 = 2 ∧ pn = 0)) := by
    rcases ho1 with ⟨h1, h2, h3, -⟩ | ⟨h1, h2, -, h4⟩
    · exact .inl ⟨h1, h2, h3⟩
    · exact .inr ⟨h1, h2, h4⟩
  have HB3 := hide ((unhide HB2).trans (hb3.mono (unhide HB2).size))
  have HW3 := hide ((unhide HW2).trans (hb3.mono (unhide HW2).size))
  clear d0 d1 d2 d3 d4 d5 d6 d7 d8
  obtain ⟨d0, d1, d2, d3, d4, d5, d6, d7, d8⟩ := unhide HKS _ (unhide HB3)
  clear hp1 ho1 hb3 HB2 HW2
  go_wp2_with fail
  refine (oRight_any o _ _ w3 (unhide HAX w3 (unhide HW3)).1 (unhide HLO) (unhide HAX w3 (unhide HW3)).2.2).mono ?_
  rintro e w4 ⟨rfl, hb4⟩
  have HB4 := hide ((unhide HB3).trans (hb4.mono (unhide HB3).size))
  have HW4 := hide ((unhide HW3).trans (hb4.mono (unhide HW3).size))
  have HP4 := hide ((unhide HP3).laterW hb4)
  clear d0 d1 d2 d3 d4 d5 d6 d7 d8
  clear hb4 HP3 HB3 HW3
  rcases unhide HO1 with ⟨hr, rfl, rfl⟩ | ⟨hr, rfl, rfl⟩
  case inr =>
    rw [hr]
    clear HO1 hr HP4
    go_wp2_with fail
    refine (unhide HAW _ (unhide HW4)).mono ?_
    rintro e w5 ⟨rfl, hb5⟩
    have HB5 := hide hb5
    clear hb5
    go_wp2_with fail
    go_ret
    exact ⟨rfl, unhide HB5⟩
  rw [hr]
  have HRT := hide hr
  have HGO := hide (unhide HGD hr)
  have HPN : Hid (o.bytes.length = pn ∧ pn ≤ 58000 ∧ 0 < pn) := by
    have h1 := (bytes_len (unhide HP4)).1
    have h2 := OD.bytes_le (unhide HGD hr)
    have h3 := o.bytes_pos
    refine ⟨h1, ?_, ?_⟩ <;> omega
  clear HO1 hr HGD
  obtain ⟨ti, hti, hz0, hz1, hz2⟩ := infoByte
  have HO5 : Hid (Own w4 (.slice (some ⟨w4.heap.size, 0, none⟩) 0 0) [] (w4.alloc (.cells #[] 5))) := ⟨own_nil w4, fun k hk => by simp [Value.ownBlock] at hk; omega, (Below.refl _ w4).alloc (Nat.le_refl _) _⟩
  have HP5 := hide ((unhide HP4).alloc (.cells #[] 5))
  go_wp2_with (at_builtin; refine wpList_append_bytes _ rfl (.tmp 43) (.tmp 44) 28 rfl 5 ti (.int .u8 0) Tryd.underlying28 hti hz0 hz1 hz2 rfl _ [] rfl (unhide HO5).own _ o.bytes rfl (unhide HP5) (by have := unhide HPN; simp; omega) ?_)
  rintro v6 W6 r1 r2 r3
  have hO6 := (unhide HO5).grown (cs := o.bytes) (by simpa using r1) r2 (by simpa using r3)
  have HP6 := hide ((unhide HP4).laterW hO6.bb)
  clear r1 r2 r3 HO5 HP5
  obtain ⟨g, gc, rfl, hgc, hg1, hg2⟩ := own_form hO6 (by have := unhide HPN; omega)
  rw [(unhide HPN).1] at hgc hO6 ⊢
  have HO6 := hide hO6
  have HG1 : Hid (w4.heap.size ≤ g) := hg1
  have HG2 : Hid (g < W6.heap.size) := hg2
  have HB6 := hide ((unhide HB4).trans (hO6.bb.mono (unhide HB4).size))
  have HW6 := hide ((unhide HW4).trans (hO6.bb.mono (unhide HW4).size))
  have HGC := hide hgc
  clear hO6 hg1 hg2 hgc
  go_wp2_with fail
  refine (oParse_any _ pn gc o.bytes W6 (unhide HO6).fresh.1.1 (by have := unhide HPN; omega) (unhide HAX _ (unhide HW6)).2.2).mono ?_
  rintro e W7 h7
  obtain ⟨u7, rfl, hA7, hb7⟩ := oParseM_ok h7 (unhide HGO)
  obtain ⟨L3, s3, t3, K3, N3, z3, va3, m3, cc3, fa3, fn3, fc3, q3, rfl, -⟩ := hA7.form
  unfold OD.form9 at *
  obtain ⟨W8, hW8⟩ : ∃ W8, W8 = W7.alloc (.cells #[.int .u8 ((L3 : Nat) : Int), .string s3, .int .i64 t3, .int .u8 ((K3 : Nat) : Int), .int .i64 N3, .string z3, .slice va3 m3 cc3, .slice fa3 fn3 fc3, .int .i64 q3] 27) := ⟨_, rfl⟩
  have hb8 : Below W7.heap.size W7 W8 := by rw [hW8]; exact (Below.refl _ _).alloc (Nat.le_refl _) _
  have hr8 : W8.heap[W7.heap.size]? = some (.cells #[.int .u8 ((L3 : Nat) : Int), .string s3, .int .i64 t3, .int .u8 ((K3 : Nat) : Int), .int .i64 N3, .string z3, .slice va3 m3 cc3, .slice fa3 fn3 fc3, .int .i64 q3] 27 (0, 0)) := by rw [hW8]; exact heap_alloc_new _ _
  have hb68 : Below W6.heap.size W6 W8 := hb7.trans (hb8.mono hb7.size)
  have HSZ : Hid (g < W6.heap.size ∧ W6.heap.size ≤ W7.heap.size ∧ W7.heap.size < W8.heap.size) := ⟨unhide HG2, hb7.size, (Array.getElem?_eq_some_iff.1 hr8).1⟩
  have HO8 := hide ((unhide HO6).later hb68)
  have HA8 := hide (hA7.later hb8)
  have HR8 := hide hr8
  have HB8 := hide ((unhide HB6).trans (hb68.mono (unhide HB6).size))
  have HW8b := hide ((unhide HW6).trans (hb68.mono (unhide HW6).size))
  have HB48 : Hid (Below w4.heap.size w4 W8) := (unhide HO6).bb.trans (hb68.mono (unhide HO6).bb.size)
  have HYR : Hid (∃ ys : List UInt8, ys.length = pn ∧ W8.ownsRow 0 5 1 (.slice (some ⟨g, 0, none⟩) pn gc) ys.length (ys.map bv)) := ⟨_, (unhide HPN).1, (unhide HO8).own⟩
  have HW8 := hide hW8
  clear h7 hA7 hb7 hb8 hr8 hb68 hW8 HO6 HO8 HG2 HB6 HW6
  go_upto_region 8 with fail
  rw [← unhide HW8]
  clear HW8
  have hpn9 : pn ≤ 58000 := (unhide HPN).2.1
  go_wp2
  go_loopw [53] (fun k W => ∃ j : Nat, j ≤ pn ∧ k = .int .i64 ((j : Nat) : Int) ∧ Only g W8 W ∧ ∃ ys : List UInt8, ys.length = pn ∧ W.ownsRow 0 5 1 (.slice (some ⟨g, 0, none⟩) pn gc) ys.length (ys.map bv)) (fun k _ => pn - (intOf k).toNat)
  case atStart => exact ⟨0, by omega, rfl, Only.refl _ _, unhide HYR⟩
  case round =>
    obtain ⟨j, hj, rfl, hon, ys, hyl, hrow⟩ := hrel
    have HON := hide hon
    clear hon
    by_cases hlt : j < pn
    · have hji : ((j : Nat) : Int) < ((pn : Nat) : Int) := by omega
      obtain ⟨y1, hcell, hfz, ys', hyl', hrow'⟩ := row_turn hrow hyl hlt
      have hxo := xor255 y1
      have HRW := hide hrow'
      have HYL := hide hyl'
      clear hrow hrow' hyl hyl'
      generalize UInt8.ofNat (y1.toNat ^^^ 255) = y2 at *
      go_wp2_with fail
      exact ⟨⟨j + 1, by omega, by go_num, (unhide HON).set rfl _, ys', unhide HYL, unhide HRW⟩, by simp [intOf]; omega⟩
    · have hji : ¬ ((j : Nat) : Int) < ((pn : Nat) : Int) := by omega
      have hb9 : Below w4.heap.size w4 wr := (unhide HB48).trans ((unhide HON).below (unhide HG1))
      have HB9 := hide ((unhide HB4).trans (hb9.mono (unhide HB4).size))
      have HW9 := hide ((unhide HW4).trans (hb9.mono (unhide HW4).size))
      have HP9 := hide ((unhide HP4).laterW hb9)
      have HA9 : Hid (o.At (fun _ => True) wr (.agg #[.int .u8 ((L3 : Nat) : Int), .string s3, .int .i64 t3, .int .u8 ((K3 : Nat) : Int), .int .i64 N3, .string z3, .slice va3 m3 cc3, .slice fa3 fn3 fc3, .int .i64 q3])) := (unhide HA8).kept (fun k hk _ => (unhide HON).block k (by have := unhide HSZ; omega)) (fun _ _ _ => trivial)
      have HR9 : Hid (wr.heap[W7.heap.size]? = some (.cells #[.int .u8 ((L3 : Nat) : Int), .string s3, .int .i64 t3, .int .u8 ((K3 : Nat) : Int), .int .i64 N3, .string z3, .slice va3 m3 cc3, .slice fa3 fn3 fc3, .int .i64 q3] 27 (0, 0))) := ((unhide HON).block _ (by have := unhide HSZ; omega)).trans (unhide HR8)
      clear hrow hyl ys HON HYR HB48 hb9 HA8 HR8 hlt hj HSZ HG1 HB8 HW8b HP4 HP6
      generalize wr = W9 at *
      have HK9 : Hid (∀ X, Below W9.heap.size W9 X → X.cell? ⟨W7.heap.size, 0, none⟩ = some (.int .u8 ((L3 : Nat) : Int)) ∧ X.cell? ⟨W7.heap.size, 1, none⟩ = some (.string s3) ∧ X.cell? ⟨W7.heap.size, 2, none⟩ = some (.int .i64 t3) ∧ X.cell? ⟨W7.heap.size, 3, none⟩ = some (.int .u8 ((K3 : Nat) : Int)) ∧ X.cell? ⟨W7.heap.size, 4, none⟩ = some (.int .i64 N3) ∧ X.cell? ⟨W7.heap.size, 5, none⟩ = some (.string z3) ∧ X.cell? ⟨W7.heap.size, 6, none⟩ = some (.slice va3 m3 cc3) ∧ X.cell? ⟨W7.heap.size, 7, none⟩ = some (.slice fa3 fn3 fc3) ∧ X.cell? ⟨W7.heap.size, 8, none⟩ = some (.int .i64 q3)) := fun X hX => cells9 ((hX.block _ (Array.getElem?_eq_some_iff.1 (unhide HR9)).1).trans (unhide HR9))
      obtain ⟨d0, d1, d2, d3, d4, d5, d6, d7, d8⟩ := unhide HKS _ (unhide HB9)
      obtain ⟨k0, k1, k2, k3, k4, k5, k6, k7, k8⟩ := unhide HK9 _ (Below.refl _ _)
      have hpc := (bytes_len (unhide HP9)).2
      go_wp2_with fail
      refine (oSame_any o o _ _ _ _ W9 (unhide HAX _ (unhide HW9)).1 (unhide HA9) (unhide HLO)).mono ?_
      rintro e W10 ⟨rfl, hb10⟩
      rw [OD.same_self]
      have HB10 := hide ((unhide HB9).trans (hb10.mono (unhide HB9).size))
      have HW10 := hide ((unhide HW9).trans (hb10.mono (unhide HW9).size))
      have HP10 := hide ((unhide HP9).laterW hb10)
      have HA10 := hide ((unhide HA9).later hb10)
      clear d0 d1 d2 d3 d4 d5 d6 d7 d8
      clear k0 k1 k2 k3 k4 k5 k6 k7 k8
      obtain ⟨k0, k1, k2, k3, k4, k5, k6, k7, k8⟩ := unhide HK9 _ hb10
      clear hb10 HB9 HW9 HP9 HA9
      go_wp2_with fail
      refine (oRight_any o _ _ W10 (unhide HA10) (unhide HLO) (unhide HAX _ (unhide HW10)).2.2).mono ?_
      rintro e W11 ⟨rfl, hb11⟩
      rw [unhide HRT]
      have HW11 := hide ((unhide HW10).trans (hb11.mono (unhide HW10).size))
      have HP11 := hide ((unhide HP10).laterW hb11)
      clear hb11 k0 k1 k2 k3 k4 k5 k6 k7 k8 HB10 HW10 HP10 HA10 HK9 HR9
      go_wp2_with fail
      go_loopw [82] (fun i W => ∃ j : Nat, j ≤ pn ∧ i = .int .i64 ((j : Nat) : Int) ∧ Below W11.heap.size W11 W) (fun i _ => pn - (intOf i).toNat)
      case atStart => exact ⟨0, by omega, rfl, Below.refl _ _⟩
      case round =>
        obtain ⟨i, hi, rfl, hb⟩ := hrel
        have HB := hide ((unhide HW11).trans (hb.mono (unhide HW11).size))
        have HBR := hide hb
        clear hb
        by_cases hlt : i < pn
        · have hji : ((i : Nat) : Int) < ((pn : Nat) : Int) := by omega
          obtain ⟨q', q''⟩ := head_run (a := pa) (n := pn) (c := pc) (h := i) (by omega)
          have HBT := hide (((unhide HP11).laterW (unhide HBR)).take (m := i) hi (unhide HPN).1)
          have HNV : Hid (NoOp (o.bytes.take i)) := noOp_less (unhide HRT) (by rw [(unhide HPN).1]; exact hlt)
          by_cases h7 : i % 5 = 0
          · skip
            go_wp2_with fail
            refine (oParse_any pa i pc (o.bytes.take i) wr (unhide HBT) (by omega) (unhide HAX _ (unhide HB)).2.2).mono ?_
            rintro e W18 h18
            obtain ⟨u18, rfl, hA18, hb18⟩ := oParseM_none h18 (unhide HNV)
            obtain ⟨L5, s5, t5, K5, N5, z5, va5, m5, cc5, fa5, fn5, fc5, q5, rfl, -⟩ := hA18.form
            unfold OD.form9
            have HB18 := hide ((unhide HBR).trans (hb18.mono (unhide HBR).size))
            have HB19 := hide ((unhide HB18).alloc (unhide HB18).size (.cells #[.int .u8 ((L5 : Nat) : Int), .string s5, .int .i64 t5, .int .u8 ((K5 : Nat) : Int), .int .i64 N5, .string z5, .slice va5 m5 cc5, .slice fa5 fn5 fc5, .int .i64 q5] 27))
            clear h18 hA18 hb18 HBT q' q'' HBR HB
            go_wp2_with fail
            exact ⟨⟨i + 1, by omega, by go_num, unhide HB19⟩, by simp [intOf]; omega⟩
          · by_cases h9 : ((pn : Nat) : Int) - ((i : Nat) : Int) < 6
            · have h9d : decide (((pn : Nat) : Int) - ((i : Nat) : Int) < 6) = true := decide_eq_true h9
              skip
              go_wp2_with fail
              refine (oParse_any pa i pc (o.bytes.take i) wr (unhide HBT) (by omega) (unhide HAX _ (unhide HB)).2.2).mono ?_
              rintro e W18 h18
              obtain ⟨u18, rfl, hA18, hb18⟩ := oParseM_none h18 (unhide HNV)
              obtain ⟨L5, s5, t5, K5, N5, z5, va5, m5, cc5, fa5, fn5, fc5, q5, rfl, -⟩ := hA18.form
              unfold OD.form9
              have HB18 := hide ((unhide HBR).trans (hb18.mono (unhide HBR).size))
              have HB19 := hide ((unhide HB18).alloc (unhide HB18).size (.cells #[.int .u8 ((L5 : Nat) : Int), .string s5, .int .i64 t5, .int .u8 ((K5 : Nat) : Int), .int .i64 N5, .string z5, .slice va5 m5 cc5, .slice fa5 fn5 fc5, .int .i64 q5] 27))
              clear h18 hA18 hb18 HBT q' q'' HBR HB
              go_wp2_with fail
              exact ⟨⟨i + 1, by omega, by go_num, unhide HB19⟩, by simp [intOf]; omega⟩
            · have h9d : decide (((pn : Nat) : Int) - ((i : Nat) : Int) < 6) = false := decide_eq_false h9
              have HBR2 := hide (unhide HBR)
              clear HBT q' q''
              go_wp2_with fail
              exact ⟨⟨i + 1, by omega, by go_num, unhide HBR2⟩, by simp [intOf]; omega⟩
        · have hji : ¬ ((i : Nat) : Int) < ((pn : Nat) : Int) := by omega
          have HP12 := hide ((unhide HP11).laterW (unhide HBR))
          clear HBR hlt hi HP11
          generalize wr = W12 at *
          have HO12 : Hid (Own W12 (.slice (some ⟨W12.heap.size, 0, none⟩) 0 0) [] (W12.alloc (.cells #[] 5))) := ⟨own_nil W12, fun k hk => by simp [Value.ownBlock] at hk; omega, (Below.refl _ W12).alloc (Nat.le_refl _) _⟩
          have HP13 := hide ((unhide HP12).alloc (.cells #[] 5))
          go_wp2_with (at_builtin; refine wpList_append_bytes _ rfl (.tmp 106) (.tmp 107) 28 rfl 5 ti (.int .u8 0) Tryd.underlying28 hti hz0 hz1 hz2 rfl _ [] rfl (unhide HO12).own _ o.bytes rfl (unhide HP13) (by have := unhide HPN; simp; omega) ?_)
          rintro v13 W13 r1 r2 r3
          have HO13 := hide ((unhide HO12).grown (cs := o.bytes) (by simpa using r1) r2 (by simpa using r3))
          have HBB := hide (unhide HAX _ ((unhide HB).trans ((unhide HO13).bb.mono (unhide HB).size))).2.1
          clear r1 r2 r3 HO12 HP13
          go_wp2_with (at_builtin; refine wpList_append_bytes _ rfl (.tmp 108) (.tmp 109) 28 rfl 5 ti (.int .u8 0) Tryd.underlying28 hti hz0 hz1 hz2 rfl _ o.bytes rfl (unhide HO13).own _ bb rfl (unhide HBB) (by have := unhide HPN; have := unhide HBL; have := unhide HLM; omega) ?_)
          rintro v14 W14 r1 r2 r3
          have hO14 := (unhide HO13).grown (cs := o.bytes ++ bb) (by simpa using r1) r2 (by simpa using r3)
          clear r1 r2 r3 HO13 HBB
          obtain ⟨g4, gc4, rfl, -, -, -⟩ := own_form hO14 (by have := unhide HPN; rw [List.length_append]; omega)
          have hM : (o.bytes ++ bb).length ≤ 60000 := by have := unhide HPN; have := unhide HBL; have := unhide HLM; rw [List.length_append]; omega
          obtain ⟨M, hM'⟩ : ∃ M, M = (o.bytes ++ bb).length := ⟨_, rfl⟩
          rw [← hM'] at hO14 hM ⊢
          have HW14 := hide ((unhide HB).trans (hO14.bb.mono (unhide HB).size))
          have HO14 := hide hO14
          have HM6 : Hid (M ≤ 60000) := hM
          clear hO14 hM hM'
          go_wp2_with fail
          refine (oParse_any _ M gc4 (o.bytes ++ bb) W14 (unhide HO14).fresh.1.1 (by have := unhide HM6; omega) (unhide HAX _ (unhide HW14)).2.2).mono ?_
          rintro e W15 h15
          have HFIN : Hid (∃ (u15 : Value) (er : Int) (x : OD), e = .returned (.tuple #[u15, .int .i64 er]) ∧ x.At (fun _ => True) W15 u15 ∧ Below W14.heap.size W14 W15 ∧ (er == 0) = (((nb : Nat) : Int) == 0)) := by
            by_cases hb0 : bb = []
            · have h15' := h15
              rw [hb0, List.append_nil] at h15'
              obtain ⟨u15, he, hA, hb⟩ := oParseM_ok h15' (unhide HGO)
              have hn0 : nb = 0 := by have := unhide HBL; rw [hb0] at this; simpa using this.symm
              exact ⟨u15, 0, o, he, hA.wider fun _ _ => trivial, hb, by rw [hn0]; rfl⟩
            · obtain ⟨u15, he, hA, hb⟩ := oParseM_none h15 (noOp_more (unhide HRT) hb0)
              have hn0 : nb ≠ 0 := fun e0 => hb0 (List.eq_nil_of_length_eq_zero (by rw [unhide HBL, e0]))
              exact ⟨u15, 30, zeroO, he, hA.wider fun _ _ => trivial, hb, by rw [show (((nb : Nat) : Int) == 0) = false from by rw [beq_eq_false_iff_ne]; omega]; rfl⟩
          obtain ⟨u15, er, x15, rfl, hA15, hb15, her⟩ := unhide HFIN
          obtain ⟨L4, s4, t4, K4, N4, z4, va4, m4, cc4, fa4, fn4, fc4, q4, rfl, -⟩ := hA15.form
          unfold OD.form9
          have HW16 : Hid (∀ X, Below W15.heap.size W15 X → Below w.heap.size w X) := fun X hX => (unhide HW14).trans ((hb15.trans (hX.mono hb15.size)).mono (unhide HW14).size)
          obtain ⟨tb, htb⟩ : ∃ tb, tb = (((nb : Nat) : Int) == 0) := ⟨_, rfl⟩
          rw [← htb] at her
          replace htb := htb.symm
          have htt : (tb == tb) = true := by cases tb <;> rfl
          clear h15 hA15 hb15 HFIN HO14
          go_wp2_with fail
          refine (unhide HAW _ (unhide HW16 _ (by repeat' (first | assumption | exact Below.refl _ _ | refine Below.alloc ?_ ?_ _ | exact Nat.le_refl _)))).mono ?_
          rintro e W17 ⟨rfl, hb17⟩
          have HB17 := hide hb17
          clear hb17
          go_wp2_with fail
          go_ret
          exact ⟨rfl, unhide HB17⟩
end Go.Proofs.YtdlbpbglidhlfaaDoor
