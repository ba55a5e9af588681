/- HeadTells, walked. -/
import Derived.Test.YtoabpjdpdcpdlaaHeadTwin
namespace Go.Proofs.Ytoabpjdpdcpdlaa
open Go.RowKit

/-- A call that came in. -/
structure CallD where
  wh : Nat
  s : Nat
  e : Nat
  l : Nat
  n : Int
  k0 : Int
  k1 : Int
  k2 : Int
  k3 : Int
def CallD.fits (x : CallD) : Prop := x.wh < 256 ∧ (HeadD.mk x.s x.e x.l).fits ∧ x.n ≤ 9223372036854775807
def CallD.vals (x : CallD) : Array Value := #[.int .u8 ((x.wh : Nat) : Int), .int .u64 ((x.s : Nat) : Int), .int .u64 ((x.e : Nat) : Int), .int .u8 ((x.l : Nat) : Int), .int .i64 x.n, .int .i64 x.k0, .int .i64 x.k1, .int .i64 x.k2, .int .i64 x.k3]
/-- A row of calls that came in. -/
def CallsAt (w : World) (a : Option Addr) (n : Nat) (ks : Nat → CallD) : Prop := n ≠ 0 → ∃ b o, a = some ⟨b, o, none⟩ ∧ ∀ j, j < n → (∀ i, i < 9 → w.cell? ⟨b, o + j * 9 + i, none⟩ = (ks j).vals[i]?) ∧ (ks j).fits

theorem refHBytes_any (s e l : Nat) (w : World) (hf : (HeadD.mk s e l).fits) : Calls Try.prog 11 #[.agg #[.int .u64 ((s : Nat) : Int), .int .u64 ((e : Nat) : Int), .int .u8 ((l : Nat) : Int)]] w fun e' w' => ∃ v, e' = .returned (.tuple #[v, .int .i64 (hbErr ⟨s, e, l⟩)]) ∧ Bytes w' v (hbOf ⟨s, e, l⟩) ∧ Below w.heap.size w w' := by
  cases hr : (HeadD.mk s e l).right with
  | true =>
    rw [hbErr_ok hr, hbOf_ok hr]
    exact (refHBytes_ok s e l w hf hr).mono fun e' w' ⟨v, he, hF⟩ => ⟨v, he, hF.1.1, hF.1.2.2⟩
  | false =>
    rw [hbErr_no hr, hbOf_no hr]
    exact (refHBytes_no s e l w hr).mono fun e' w' ⟨he, hb⟩ => ⟨_, he, .inl ⟨rfl, rfl⟩, hb⟩

set_option maxRecDepth 100000 in
set_option maxHeartbeats 8000000 in
theorem headTells_out (ha : HeadAwake) (s e l : Nat) (a1 a2 a3 : Option Addr) (n1 c1 n2 c2 n3 c3 : Nat) (w : World) (hn : 40 < n1 ∨ 40 < n2 ∨ 30 < n3) :
    Calls Try.prog 3 #[.agg #[.int .u64 ((s : Nat) : Int), .int .u64 ((e : Nat) : Int), .int .u8 ((l : Nat) : Int)], .slice a1 n1 c1, .slice a2 n2 c2, .slice a3 n3 c3] w fun x w' => x = .returned (.bool true) ∧ Below w.heap.size w w' := by
  have HA := hide ha
  have HB := hide ((Below.refl _ w).alloc (Nat.le_refl _) (.cells #[.int .u64 ((s : Nat) : Int), .int .u64 ((e : Nat) : Int), .int .u8 ((l : Nat) : Int)] 24))
  clear ha
  by_cases h1 : 40 < n1
  · have l1 : (n1 : Int) > 40 := by omega
    clear hn h1
    go_enter Try.func3, Try.ntmps3
    go_wp2_with fail
    refine (unhide HA _).mono ?_
    rintro x W10 ⟨rfl, hb10⟩
    have HFIN : Hid (Below w.heap.size w W10) := (unhide HB).trans (hb10.mono (unhide HB).size)
    clear hb10
    go_wp2_with fail
    go_ret
    exact ⟨rfl, unhide HFIN⟩
  · have l1 : ¬ (n1 : Int) > 40 := by omega
    by_cases h2 : 40 < n2
    · have l2 : (n2 : Int) > 40 := by omega
      clear hn h1 h2
      go_enter Try.func3, Try.ntmps3
      go_wp2_with fail
      refine (unhide HA _).mono ?_
      rintro x W10 ⟨rfl, hb10⟩
      have HFIN : Hid (Below w.heap.size w W10) := (unhide HB).trans (hb10.mono (unhide HB).size)
      clear hb10
      go_wp2_with fail
      go_ret
      exact ⟨rfl, unhide HFIN⟩
    · have l2 : ¬ (n2 : Int) > 40 := by omega
      have l3 : (n3 : Int) > 30 := by omega
      clear hn h1 h2
      go_enter Try.func3, Try.ntmps3
      go_wp2_with fail
      refine (unhide HA _).mono ?_
      rintro x W10 ⟨rfl, hb10⟩
      have HFIN : Hid (Below w.heap.size w W10) := (unhide HB).trans (hb10.mono (unhide HB).size)
      clear hb10
      go_wp2_with fail
      go_ret
      exact ⟨rfl, unhide HFIN⟩

set_option maxRecDepth 100000 in
set_option maxHeartbeats 16000000 in
theorem headTells_in (ho : HeadOk) (ha : HeadAwake) (s e l : Nat) (a1 a2 a3 : Option Addr) (n1 c1 n2 c2 n3 c3 : Nat) (b1 b2 : List UInt8) (ks : Nat → CallD) (w : World) (hf : (HeadD.mk s e l).fits) (h1 : Bytes w (.slice a1 n1 c1) b1) (h2 : Bytes w (.slice a2 n2 c2) b2) (h3 : CallsAt w a3 n3 ks) (hn1 : n1 ≤ 40) (hn2 : n2 ≤ 40) (hn3 : n3 ≤ 30) :
    Calls Try.prog 3 #[.agg #[.int .u64 ((s : Nat) : Int), .int .u64 ((e : Nat) : Int), .int .u8 ((l : Nat) : Int)], .slice a1 n1 c1, .slice a2 n2 c2, .slice a3 n3 c3] w fun x w' => x = .returned (.bool true) ∧ Below w.heap.size w w' := by
  have HO := hide ho
  have HA := hide ha
  have HX := hide h3
  have HF := hide hf
  have HK0 := hide (((Kh.start w).addB h1).addB h2)
  have HK1 := hide ((unhide HK0).newC #[.int .u64 ((s : Nat) : Int), .int .u64 ((e : Nat) : Int), .int .u8 ((l : Nat) : Int)])
  clear ho ha h1 h2 h3 hf HK0
  have l1 : ¬ (n1 : Int) > 40 := by omega
  have l2 : ¬ (n2 : Int) > 40 := by omega
  have l3 : ¬ (n3 : Int) > 30 := by omega
  go_enter Try.func3, Try.ntmps3
  go_upto_region 1 with fail
  generalize w.alloc (.cells #[.int .u64 ((s : Nat) : Int), .int .u64 ((e : Nat) : Int), .int .u8 ((l : Nat) : Int)] 24) = W1 at *
  obtain ⟨k0, k1, k2⟩ := (unhide HK1).three (g := w.heap.size) (x := .int .u64 ((s : Nat) : Int)) (y := .int .u64 ((e : Nat) : Int)) (z := .int .u8 ((l : Nat) : Int)) (by simp)
  go_wp2_with fail
  refine ((unhide HO).pure.bytes s e l _ (unhide HF)).mono ?_
  rintro x W2 ⟨v1, rfl, hv1, hb2⟩
  have HK2 := hide (((unhide HK1).later hb2).addB hv1)
  clear hv1 hb2 k0 k1 k2 HK1
  obtain ⟨k0, k1, k2⟩ := (unhide HK2).three (g := w.heap.size) (x := .int .u64 ((s : Nat) : Int)) (y := .int .u64 ((e : Nat) : Int)) (z := .int .u8 ((l : Nat) : Int)) (by simp)
  go_wp2_with fail
  refine (refHBytes_any s e l _ (unhide HF)).mono ?_
  rintro x W3 ⟨v2, rfl, hv2, hb3⟩
  have HK3 := hide (((unhide HK2).later hb3).addB hv2)
  clear hv2 hb3 k0 k1 k2 HK2
  go_wp2_with fail
  refine ((unhide HO).pure.read _ b1 _ ((unhide HK3).byt (.slice a1 n1 c1, b1) (by simp))).mono ?_
  rintro x W4 ⟨rfl, hb4⟩
  obtain ⟨⟨s1, e1, l1'⟩, hR⟩ : ∃ R, readH b1 = R := ⟨_, rfl⟩
  obtain ⟨X, hX⟩ : ∃ X, isHead b1 = X := ⟨_, rfl⟩
  have HRV : Hid ((readH b1).val = .agg #[.int .u64 ((s1 : Nat) : Int), .int .u64 ((e1 : Nat) : Int), .int .u8 ((l1' : Nat) : Int)]) := by show _ = _; rw [hR]; rfl
  have HXX := hide hX
  clear hR hX
  rw [unhide HRV, unhide HXX]
  have HK4 := hide (((unhide HK3).later hb4).newC #[.int .u64 ((s1 : Nat) : Int), .int .u64 ((e1 : Nat) : Int), .int .u8 ((l1' : Nat) : Int)])
  clear hb4 HK3
  go_upto_region 6 with fail
  generalize W4.alloc (.cells #[.int .u64 ((s1 : Nat) : Int), .int .u64 ((e1 : Nat) : Int), .int .u8 ((l1' : Nat) : Int)] 24) = W5 at *
  generalize W4.heap.size = g13 at *
  go_wp2_with fail
  refine (refHRead_any _ b1 _ ((unhide HK4).byt (.slice a1 n1 c1, b1) (by simp))).mono ?_
  rintro x W6 ⟨rfl, hb6⟩
  rw [unhide HRV, unhide HXX]
  have HK6 := hide (((unhide HK4).later hb6).newC #[.int .u64 ((s1 : Nat) : Int), .int .u64 ((e1 : Nat) : Int), .int .u8 ((l1' : Nat) : Int)])
  clear hb6 HK4
  go_upto_region 7 with fail
  generalize W6.alloc (.cells #[.int .u64 ((s1 : Nat) : Int), .int .u64 ((e1 : Nat) : Int), .int .u8 ((l1' : Nat) : Int)] 24) = W7 at *
  generalize W6.heap.size = g15 at *
  go_wp2_with fail
  refine ((unhide HO).pure.pick _ _ b1 b2 _ ((unhide HK6).byt (.slice a1 n1 c1, b1) (by simp)) ((unhide HK6).byt (.slice a2 n2 c2, b2) (by simp))).mono ?_
  rintro x W8 ⟨rfl, hb8⟩
  obtain ⟨⟨s2, e2, l2'⟩, hQ⟩ : ∃ R, pickV b1 b2 = R := ⟨_, rfl⟩
  obtain ⟨Y, hY⟩ : ∃ X, (pickH b1 b2).isSome = X := ⟨_, rfl⟩
  have HQV : Hid ((pickV b1 b2).val = .agg #[.int .u64 ((s2 : Nat) : Int), .int .u64 ((e2 : Nat) : Int), .int .u8 ((l2' : Nat) : Int)]) := by show _ = _; rw [hQ]; rfl
  have HYY := hide hY
  clear hQ hY
  rw [unhide HQV, unhide HYY]
  have HK8 := hide (((unhide HK6).later hb8).newC #[.int .u64 ((s2 : Nat) : Int), .int .u64 ((e2 : Nat) : Int), .int .u8 ((l2' : Nat) : Int)])
  clear hb8 HK6
  go_upto_region 8 with fail
  generalize W8.alloc (.cells #[.int .u64 ((s2 : Nat) : Int), .int .u64 ((e2 : Nat) : Int), .int .u8 ((l2' : Nat) : Int)] 24) = W9 at *
  generalize W8.heap.size = g17 at *
  go_wp2_with fail
  refine (refPick_any _ _ b1 b2 _ ((unhide HK8).byt (.slice a1 n1 c1, b1) (by simp)) ((unhide HK8).byt (.slice a2 n2 c2, b2) (by simp))).mono ?_
  rintro x W10 ⟨rfl, hb10⟩
  rw [unhide HQV, unhide HYY]
  have HK10 := hide (((unhide HK8).later hb10).newC #[.int .u64 ((s2 : Nat) : Int), .int .u64 ((e2 : Nat) : Int), .int .u8 ((l2' : Nat) : Int)])
  clear hb10 HK8
  go_upto_region 9 with fail
  generalize W10.alloc (.cells #[.int .u64 ((s2 : Nat) : Int), .int .u64 ((e2 : Nat) : Int), .int .u8 ((l2' : Nat) : Int)] 24) = W11 at *
  generalize W10.heap.size = g19 at *
  obtain ⟨ka0, ka1, ka2⟩ := (unhide HK10).three (g := g13) (x := .int .u64 ((s1 : Nat) : Int)) (y := .int .u64 ((e1 : Nat) : Int)) (z := .int .u8 ((l1' : Nat) : Int)) (by simp)
  obtain ⟨kb0, kb1, kb2⟩ := (unhide HK10).three (g := g15) (x := .int .u64 ((s1 : Nat) : Int)) (y := .int .u64 ((e1 : Nat) : Int)) (z := .int .u8 ((l1' : Nat) : Int)) (by simp)
  obtain ⟨kc0, kc1, kc2⟩ := (unhide HK10).three (g := g17) (x := .int .u64 ((s2 : Nat) : Int)) (y := .int .u64 ((e2 : Nat) : Int)) (z := .int .u8 ((l2' : Nat) : Int)) (by simp)
  obtain ⟨kd0, kd1, kd2⟩ := (unhide HK10).three (g := g19) (x := .int .u64 ((s2 : Nat) : Int)) (y := .int .u64 ((e2 : Nat) : Int)) (z := .int .u8 ((l2' : Nat) : Int)) (by simp)
  obtain ⟨ke0, ke1, ke2⟩ := (unhide HK10).three (g := w.heap.size) (x := .int .u64 ((s : Nat) : Int)) (y := .int .u64 ((e : Nat) : Int)) (z := .int .u8 ((l : Nat) : Int)) (by simp)
  obtain ⟨er, her⟩ : ∃ er, hbErr ⟨s, e, l⟩ = er := ⟨_, rfl⟩
  obtain ⟨R, hR⟩ : ∃ R, (HeadD.mk s e l).right = R := ⟨_, rfl⟩
  have HRR := hide hR
  rw [her]
  clear her hR
  go_cut [111] (fun v wx => v = .bool false ∧ Below W11.heap.size W11 wx)
  case first =>
    have lka0 := Later.cell ka0
    have lka1 := Later.cell ka1
    have lka2 := Later.cell ka2
    have lkb0 := Later.cell kb0
    have lkb1 := Later.cell kb1
    have lkb2 := Later.cell kb2
    have lkc0 := Later.cell kc0
    have lkc1 := Later.cell kc1
    have lkc2 := Later.cell kc2
    have lkd0 := Later.cell kd0
    have lkd1 := Later.cell kd1
    have lkd2 := Later.cell kd2
    have lke0 := Later.cell ke0
    have lke1 := Later.cell ke1
    have lke2 := Later.cell ke2
    clear ka0 ka1 ka2 kb0 kb1 kb2 kc0 kc1 kc2 kd0 kd1 kd2 ke0 ke1 ke2
    have hne : Nonempty (Later W11) := ⟨⟨W11, Below.refl _ _⟩⟩
    have HV1 : Hid (Bytes W11 v1 (hbOf ⟨s, e, l⟩)) := (unhide HK10).byt (v1, hbOf ⟨s, e, l⟩) (by simp)
    have HV2 : Hid (Bytes W11 v2 (hbOf ⟨s, e, l⟩)) := (unhide HK10).byt (v2, hbOf ⟨s, e, l⟩) (by simp)
    refine wp_region_later (by kernel_rfl) ?_
    repeat (go_big_quiet_step ((rename_i x; first
      | (go_at_call 16; refine (low_same v1 v2 (hbOf ⟨s, e, l⟩) (hbOf ⟨s, e, l⟩) _ (Later.bytes (unhide HV1) x) (Later.bytes (unhide HV2) x)).mono ?_; rintro y w11 ⟨rfl, rfl⟩; exact ⟨by rw [decide_eq_true rfl], x.same rfl⟩)
      | (go_at_call 17; refine ((unhide HO).pure.right s e l _ (unhide HF)).mono ?_; rintro y w11 ⟨rfl, hb⟩; exact ⟨by rw [unhide HRR], x.then hb⟩)
      | (go_at_call 18; refine (refRight_any s e l _).mono ?_; rintro y w11 ⟨rfl, hb⟩; exact ⟨by rw [unhide HRR], x.then hb⟩))))
    refine wpQuiet_nil ?_
    rintro _ ⟨x, rfl⟩
    have HFIN : Hid (Below W11.heap.size W11 x.1) := x.2
    generalize x.1 = W20 at *
    go_wp2_with fail
    go_meet
    exact ⟨by simp, unhide HFIN⟩
  obtain ⟨rfl, hb⟩ := hcut
  have HBF : Hid (Below w.heap.size w wc) := (unhide HK10).bb.trans (hb.mono (unhide HK10).bb.size)
  clear hb ka0 ka1 ka2 kb0 kb1 kb2 kc0 kc1 kc2 kd0 kd1 kd2 ke0 ke1 ke2 HK10 HRV HXX HQV HYY HRR
  generalize wc = Wf at *
  go_wp2_with fail
  refine (new_ok 100 (by decide) (by decide) Wf).mono ?_
  rintro x W12 ⟨rfl, hD, hz, hbd⟩
  obtain ⟨p, hp⟩ : ∃ p, p = Wf.heap.size := ⟨_, rfl⟩
  rw [← hp] at hD hz hbd ⊢
  have HP := hide hp
  have HDD := hide hD
  have HZZ := hide hz
  have HBD := hide hbd
  clear hD hz hbd hp
  go_wp2_with fail
  refine (mNew 100 _).mono ?_
  rintro x W13 ⟨cs, rfl, hV, hb13⟩
  obtain ⟨q, hq⟩ : ∃ q, q = W13.heap.size := ⟨_, rfl⟩
  have HT0 := hide (TW.begin5 (z := #[.int .i64 0, .slice none 0 0, .slice none 0 0, .slice none 0 0, .slice none 0 0, .slice none 0 0, .slice none 0 0, .slice none 0 0, .slice none 0 0, .bool false, .int .i64 0, .int .i64 0, .bool false]) (unhide HP) hq (unhide HDD) (unhide HZZ) (unhide HBD) hV hb13)
  have HQ0 : Hid ((W13.alloc (.cells #[.int .i64 0, .slice none 0 0, .slice none 0 0, .slice none 0 0, .slice none 0 0, .slice none 0 0, .slice none 0 0, .slice none 0 0, .slice none 0 0, .bool false, .int .i64 0, .int .i64 0, .bool false] 43)).heap[q]? = some (.cells #[.int .i64 0, .slice none 0 0, .slice none 0 0, .slice none 0 0, .slice none 0 0, .slice none 0 0, .slice none 0 0, .slice none 0 0, .slice none 0 0, .bool false, .int .i64 0, .int .i64 0, .bool false] 43 (0, 0))) := by show _ = _; rw [hq]; exact heap_alloc_new W13 _
  have HQ1 : Hid ((Try.prog.info? 43).map (·.size) = some cs.size) := hV.size
  have HQ2 : Hid ((#[.int .i64 0, .slice none 0 0, .slice none 0 0, .slice none 0 0, .slice none 0 0, .slice none 0 0, .slice none 0 0, .slice none 0 0, .slice none 0 0, .bool false, .int .i64 0, .int .i64 0, .bool false] : Array Value).size = cs.size) := by have h5 := hV.shape.1; exact h5.symm
  have HQ3 := hide hV.shape.2
  have HQE := hide hq
  clear hV hb13 hq
  go_upto_region 13 with (refine wpList_store_row rfl 43 (.tmp 23) (.tmp 116) rfl W13.heap.size cs rfl rfl _ _ (by rw [← unhide HQE]; exact unhide HQ0) (unhide HQ1) (unhide HQ2) (unhide HQ3) ?_)
  rw [← unhide HQE]
  clear HQ0 HQ1 HQ2 HQ3
  generalize (W13.alloc (.cells #[.int .i64 0, .slice none 0 0, .slice none 0 0, .slice none 0 0, .slice none 0 0, .slice none 0 0, .slice none 0 0, .slice none 0 0, .slice none 0 0, .bool false, .int .i64 0, .int .i64 0, .bool false] 43)).setRow q cs = W14 at *
  go_simp
  go_wp2_with fail
  go_loopw [121] (fun i W => ∃ (j : Nat) (A : AD) (cs : Array Value), j ≤ n3 ∧ i = .int .i64 ((j : Nat) : Int) ∧ TW Wf p q (fun _ => False) cs A A W) (fun i _ => n3 - (intOf i).toNat)
  case atStart => exact ⟨0, _, _, by omega, rfl, unhide HT0⟩
  case round =>
    obtain ⟨j, A, cs1, hj, rfl, hT⟩ := hrel
    have HT := hide hT
    clear hT HT0
    by_cases hlt : j < n3
    · obtain ⟨b, o, rfl, hxx⟩ := unhide HX (by omega)
      obtain ⟨hcell, hfit⟩ := hxx j hlt
      obtain ⟨⟨kw, ks1, ke1, kl1, kn, kk0, kk1, kk2, kk3⟩, hh⟩ : ∃ h, ks j = h := ⟨_, rfl⟩
      rw [hh] at hcell hfit
      have HBW : Hid (Below w.heap.size w wr) := (unhide HBF).trans ((unhide HT).below.mono (unhide HBF).size)
      have z0 : wr.cell? ⟨b, o + j * 9, none⟩ = some (.int .u8 ((kw : Nat) : Int)) := ((unhide HBW).cell (p := ⟨b, o + j * 9, none⟩) (World.block_lt_of_cell? _ _ (hcell 0 (by decide)))).trans (hcell 0 (by decide))
      have z1 : wr.cell? ⟨b, o + j * 9 + 1, none⟩ = some (.int .u64 ((ks1 : Nat) : Int)) := ((unhide HBW).cell (p := ⟨b, o + j * 9 + 1, none⟩) (World.block_lt_of_cell? _ _ (hcell 1 (by decide)))).trans (hcell 1 (by decide))
      have z2 : wr.cell? ⟨b, o + j * 9 + 2, none⟩ = some (.int .u64 ((ke1 : Nat) : Int)) := ((unhide HBW).cell (p := ⟨b, o + j * 9 + 2, none⟩) (World.block_lt_of_cell? _ _ (hcell 2 (by decide)))).trans (hcell 2 (by decide))
      have z3 : wr.cell? ⟨b, o + j * 9 + 3, none⟩ = some (.int .u8 ((kl1 : Nat) : Int)) := ((unhide HBW).cell (p := ⟨b, o + j * 9 + 3, none⟩) (World.block_lt_of_cell? _ _ (hcell 3 (by decide)))).trans (hcell 3 (by decide))
      have z4 : wr.cell? ⟨b, o + j * 9 + 4, none⟩ = some (.int .i64 kn) := ((unhide HBW).cell (p := ⟨b, o + j * 9 + 4, none⟩) (World.block_lt_of_cell? _ _ (hcell 4 (by decide)))).trans (hcell 4 (by decide))
      have z5 : wr.cell? ⟨b, o + j * 9 + 5, none⟩ = some (.int .i64 kk0) := ((unhide HBW).cell (p := ⟨b, o + j * 9 + 5, none⟩) (World.block_lt_of_cell? _ _ (hcell 5 (by decide)))).trans (hcell 5 (by decide))
      have z6 : wr.cell? ⟨b, o + j * 9 + 6, none⟩ = some (.int .i64 kk1) := ((unhide HBW).cell (p := ⟨b, o + j * 9 + 6, none⟩) (World.block_lt_of_cell? _ _ (hcell 6 (by decide)))).trans (hcell 6 (by decide))
      have z7 : wr.cell? ⟨b, o + j * 9 + 7, none⟩ = some (.int .i64 kk2) := ((unhide HBW).cell (p := ⟨b, o + j * 9 + 7, none⟩) (World.block_lt_of_cell? _ _ (hcell 7 (by decide)))).trans (hcell 7 (by decide))
      have z8 : wr.cell? ⟨b, o + j * 9 + 8, none⟩ = some (.int .i64 kk3) := ((unhide HBW).cell (p := ⟨b, o + j * 9 + 8, none⟩) (World.block_lt_of_cell? _ _ (hcell 8 (by decide)))).trans (hcell 8 (by decide))
      have HFT : Hid (HeadD.mk ks1 ke1 kl1).fits := hfit.2.1
      have HKN : Hid (kn ≤ 9223372036854775807) := hfit.2.2
      have hkw : kw < 256 := hfit.1
      have HOKA : Hid A.Ok := (unhide HT).ok
      have m1 : (j : Int) < (n3 : Int) := by omega
      have m2 : ¬ (j : Int) < 0 := by omega
      have hwj : IntKind.i64.wrap ((j : Int) + 1) = ((j : Int) + 1) := by rw [IntKind.wrap_i64]; omega
      clear hcell hfit hh hxx
      have HM1 := hide ((Tk.start (unhide HT)).new (.cells #[.int .u8 ((kw : Nat) : Int), .int .u64 ((ks1 : Nat) : Int), .int .u64 ((ke1 : Nat) : Int), .int .u8 ((kl1 : Nat) : Int), .int .i64 kn, .int .i64 kk0, .int .i64 kk1, .int .i64 kk2, .int .i64 kk3] 47))
      have HM2 := hide ((unhide HM1).new (.cells #[.int .u64 0, .int .u64 0, .int .u8 0] 24))
      have HM3 := hide ((unhide HM2).new (.cells #[.int .u64 0, .int .u64 0, .int .u8 0] 24))
      have ez1 : (wr.alloc (.cells #[.int .u8 ((kw : Nat) : Int), .int .u64 ((ks1 : Nat) : Int), .int .u64 ((ke1 : Nat) : Int), .int .u8 ((kl1 : Nat) : Int), .int .i64 kn, .int .i64 kk0, .int .i64 kk1, .int .i64 kk2, .int .i64 kk3] 47)).heap.size = wr.heap.size + 1 := by simp
      have ez2 : ((wr.alloc (.cells #[.int .u8 ((kw : Nat) : Int), .int .u64 ((ks1 : Nat) : Int), .int .u64 ((ke1 : Nat) : Int), .int .u8 ((kl1 : Nat) : Int), .int .i64 kn, .int .i64 kk0, .int .i64 kk1, .int .i64 kk2, .int .i64 kk3] 47)).alloc (.cells #[.int .u64 0, .int .u64 0, .int .u8 0] 24)).heap.size = wr.heap.size + 1 + 1 := by simp
      rw [ez1, ez2] at HM3
      clear ez1 ez2 HM1 HM2
      go_upto_region 19 with fail
      generalize ((wr.alloc (.cells #[.int .u8 ((kw : Nat) : Int), .int .u64 ((ks1 : Nat) : Int), .int .u64 ((ke1 : Nat) : Int), .int .u8 ((kl1 : Nat) : Int), .int .i64 kn, .int .i64 kk0, .int .i64 kk1, .int .i64 kk2, .int .i64 kk3] 47)).alloc (.cells #[.int .u64 0, .int .u64 0, .int .u8 0] 24)).alloc (.cells #[.int .u64 0, .int .u64 0, .int .u8 0] 24) = W21 at *
      clear z0 z1 z2 z3 z4 z5 z6 z7 z8
      obtain ⟨gk, hgk⟩ : ∃ g, wr.heap.size = g := ⟨_, rfl⟩
      obtain ⟨g26, hg26⟩ : ∃ g, wr.heap.size + 1 = g := ⟨_, rfl⟩
      obtain ⟨g27, hg27⟩ : ∃ g, wr.heap.size + 1 + 1 = g := ⟨_, rfl⟩
      have HGS : Hid (gk < g26 ∧ g26 < g27) := by show _ ∧ _; omega
      rw [hg27, hg26, hgk] at HM3 ⊢
      clear hg27 hg26 hgk
      by_cases hk0 : kw = 0
      · skip
        have w0 : (kw : Int) = 0 := by omega
        have v0 : ((kw : Int) == 0) = true := beq_iff_eq.2 w0
        clear hk0
        have HOK1 := HOKA
        obtain ⟨A1, hA1⟩ : ∃ A1, saveD A ⟨ks1, ke1, kl1⟩ = A1 := ⟨_, rfl⟩
        obtain ⟨⟨S, E, L⟩, hSH⟩ : ∃ S, saveH A ⟨ks1, ke1, kl1⟩ = S := ⟨_, rfl⟩
        obtain ⟨er2, hSE⟩ : ∃ S, saveE A ⟨ks1, ke1, kl1⟩ = S := ⟨_, rfl⟩
        have HSV : Hid ((saveH A ⟨ks1, ke1, kl1⟩).val = .agg #[.int .u64 ((S : Nat) : Int), .int .u64 ((E : Nat) : Int), .int .u8 ((L : Nat) : Int)]) := by show _ = _; rw [hSH]; rfl
        have HSE := hide hSE
        have HAA := hide hA1
        clear hSH hSE hA1
        have q0 : W21.cell? ⟨gk, 0, none⟩ = some (.int .u8 ((kw : Nat) : Int)) := (unhide HM3).cell (g := gk) (vs := #[.int .u8 ((kw : Nat) : Int), .int .u64 ((ks1 : Nat) : Int), .int .u64 ((ke1 : Nat) : Int), .int .u8 ((kl1 : Nat) : Int), .int .i64 kn, .int .i64 kk0, .int .i64 kk1, .int .i64 kk2, .int .i64 kk3]) (t := 47) (by simp) 0
        have q1 : W21.cell? ⟨gk, 1, none⟩ = some (.int .u64 ((ks1 : Nat) : Int)) := (unhide HM3).cell (g := gk) (vs := #[.int .u8 ((kw : Nat) : Int), .int .u64 ((ks1 : Nat) : Int), .int .u64 ((ke1 : Nat) : Int), .int .u8 ((kl1 : Nat) : Int), .int .i64 kn, .int .i64 kk0, .int .i64 kk1, .int .i64 kk2, .int .i64 kk3]) (t := 47) (by simp) 1
        have q2 : W21.cell? ⟨gk, 2, none⟩ = some (.int .u64 ((ke1 : Nat) : Int)) := (unhide HM3).cell (g := gk) (vs := #[.int .u8 ((kw : Nat) : Int), .int .u64 ((ks1 : Nat) : Int), .int .u64 ((ke1 : Nat) : Int), .int .u8 ((kl1 : Nat) : Int), .int .i64 kn, .int .i64 kk0, .int .i64 kk1, .int .i64 kk2, .int .i64 kk3]) (t := 47) (by simp) 2
        have q3 : W21.cell? ⟨gk, 3, none⟩ = some (.int .u8 ((kl1 : Nat) : Int)) := (unhide HM3).cell (g := gk) (vs := #[.int .u8 ((kw : Nat) : Int), .int .u64 ((ks1 : Nat) : Int), .int .u64 ((ke1 : Nat) : Int), .int .u8 ((kl1 : Nat) : Int), .int .i64 kn, .int .i64 kk0, .int .i64 kk1, .int .i64 kk2, .int .i64 kk3]) (t := 47) (by simp) 3
        go_wp2_with fail
        refine (tkSave (unhide HO) (unhide HM3) ks1 ke1 kl1 (unhide HFT)).mono ?_
        rintro x W22 ⟨rfl, hk22⟩
        rw [unhide HSV, unhide HSE]
        rw [unhide HAA] at hk22
        have HM4 := hide (hk22.less (M' := [(g26, Obj.cells #[.int .u64 0, .int .u64 0, .int .u8 0] 24 (0, 0)), (g27, Obj.cells #[.int .u64 0, .int .u64 0, .int .u8 0] 24 (0, 0)), (gk, Obj.cells #[.int .u8 ((kw : Nat) : Int), .int .u64 ((ks1 : Nat) : Int), .int .u64 ((ke1 : Nat) : Int), .int .u8 ((kl1 : Nat) : Int), .int .i64 kn, .int .i64 kk0, .int .i64 kk1, .int .i64 kk2, .int .i64 kk3] 47 (0, 0))]) (by simp))
        clear hk22 HM3 q0 q1 q2 q3
        have r0 : W22.cell? ⟨g26, 0, none⟩ = some (.int .u64 0) := (unhide HM4).cell (g := g26) (vs := #[.int .u64 0, .int .u64 0, .int .u8 0]) (t := 24) (by simp) 0
        have r1 : W22.cell? ⟨g26, 1, none⟩ = some (.int .u64 0) := (unhide HM4).cell (g := g26) (vs := #[.int .u64 0, .int .u64 0, .int .u8 0]) (t := 24) (by simp) 1
        have r2 : W22.cell? ⟨g26, 2, none⟩ = some (.int .u8 0) := (unhide HM4).cell (g := g26) (vs := #[.int .u64 0, .int .u64 0, .int .u8 0]) (t := 24) (by simp) 2
        have rf0 := (unhide HM4).frozen (g := g26) (vs := #[.int .u64 0, .int .u64 0, .int .u8 0]) (t := 24) (by simp) 0
        have rf1 := (unhide HM4).frozen (g := g26) (vs := #[.int .u64 0, .int .u64 0, .int .u8 0]) (t := 24) (by simp) 1
        have rf2 := (unhide HM4).frozen (g := g26) (vs := #[.int .u64 0, .int .u64 0, .int .u8 0]) (t := 24) (by simp) 2
        have HM5 := hide ((unhide HM4).set3 (by have := unhide HGS; intro x hx; simp only [List.mem_cons, List.not_mem_nil, or_false] at hx; rcases hx with rfl | rfl <;> simp only <;> omega) (.int .u64 ((S : Nat) : Int)) (.int .u64 ((E : Nat) : Int)) (.int .u8 ((L : Nat) : Int)))
        go_upto_region 25 with fail
        generalize ((W22.setCell ⟨g26, 0, none⟩ (.int .u64 ((S : Nat) : Int))).setCell ⟨g26, 1, none⟩ (.int .u64 ((E : Nat) : Int))).setCell ⟨g26, 2, none⟩ (.int .u8 ((L : Nat) : Int)) = W23 at *
        clear HM4 r0 r1 r2 rf0 rf1 rf2
        have q1 : W23.cell? ⟨gk, 1, none⟩ = some (.int .u64 ((ks1 : Nat) : Int)) := (unhide HM5).cell (g := gk) (vs := #[.int .u8 ((kw : Nat) : Int), .int .u64 ((ks1 : Nat) : Int), .int .u64 ((ke1 : Nat) : Int), .int .u8 ((kl1 : Nat) : Int), .int .i64 kn, .int .i64 kk0, .int .i64 kk1, .int .i64 kk2, .int .i64 kk3]) (t := 47) (by simp) 1
        have q2 : W23.cell? ⟨gk, 2, none⟩ = some (.int .u64 ((ke1 : Nat) : Int)) := (unhide HM5).cell (g := gk) (vs := #[.int .u8 ((kw : Nat) : Int), .int .u64 ((ks1 : Nat) : Int), .int .u64 ((ke1 : Nat) : Int), .int .u8 ((kl1 : Nat) : Int), .int .i64 kn, .int .i64 kk0, .int .i64 kk1, .int .i64 kk2, .int .i64 kk3]) (t := 47) (by simp) 2
        have q3 : W23.cell? ⟨gk, 3, none⟩ = some (.int .u8 ((kl1 : Nat) : Int)) := (unhide HM5).cell (g := gk) (vs := #[.int .u8 ((kw : Nat) : Int), .int .u64 ((ks1 : Nat) : Int), .int .u64 ((ke1 : Nat) : Int), .int .u8 ((kl1 : Nat) : Int), .int .i64 kn, .int .i64 kk0, .int .i64 kk1, .int .i64 kk2, .int .i64 kk3]) (t := 47) (by simp) 3
        go_wp2_with (refine wpList_load_row rfl 43 (.tmp 23) rfl q rfl _ _ _ _ (unhide HM5).row Try.underlying43 rfl (unhide HM5).size ?_)
        refine (tkRefSave (unhide HM5) (unhide HOKA) ks1 ke1 kl1 (unhide HFT)).mono ?_
        rintro x W24 ⟨cs2, rfl, hst, _⟩
        rw [unhide HSV, unhide HSE]
        rw [unhide HAA] at hst
        have HST := hide hst
        have HM6 := hide (hst.next.less (M' := [(g27, Obj.cells #[.int .u64 0, .int .u64 0, .int .u8 0] 24 (0, 0)), (g26, Obj.cells #[.int .u64 ((S : Nat) : Int), .int .u64 ((E : Nat) : Int), .int .u8 ((L : Nat) : Int)] 24 (0, 0)), (gk, Obj.cells #[.int .u8 ((kw : Nat) : Int), .int .u64 ((ks1 : Nat) : Int), .int .u64 ((ke1 : Nat) : Int), .int .u8 ((kl1 : Nat) : Int), .int .i64 kn, .int .i64 kk0, .int .i64 kk1, .int .i64 kk2, .int .i64 kk3] 47 (0, 0))]) (by simp))
        clear hst HM5 q1 q2 q3
        have r0 : (W24.setRow q cs2).cell? ⟨g27, 0, none⟩ = some (.int .u64 0) := (unhide HM6).cell (g := g27) (vs := #[.int .u64 0, .int .u64 0, .int .u8 0]) (t := 24) (by simp) 0
        have r1 : (W24.setRow q cs2).cell? ⟨g27, 1, none⟩ = some (.int .u64 0) := (unhide HM6).cell (g := g27) (vs := #[.int .u64 0, .int .u64 0, .int .u8 0]) (t := 24) (by simp) 1
        have r2 : (W24.setRow q cs2).cell? ⟨g27, 2, none⟩ = some (.int .u8 0) := (unhide HM6).cell (g := g27) (vs := #[.int .u64 0, .int .u64 0, .int .u8 0]) (t := 24) (by simp) 2
        have rf0 := (unhide HM6).frozen (g := g27) (vs := #[.int .u64 0, .int .u64 0, .int .u8 0]) (t := 24) (by simp) 0
        have rf1 := (unhide HM6).frozen (g := g27) (vs := #[.int .u64 0, .int .u64 0, .int .u8 0]) (t := 24) (by simp) 1
        have rf2 := (unhide HM6).frozen (g := g27) (vs := #[.int .u64 0, .int .u64 0, .int .u8 0]) (t := 24) (by simp) 2
        have HM7 := hide ((unhide HM6).set3 (by have := unhide HGS; intro x hx; simp only [List.mem_cons, List.not_mem_nil, or_false] at hx; rcases hx with rfl | rfl <;> simp only <;> omega) (.int .u64 ((S : Nat) : Int)) (.int .u64 ((E : Nat) : Int)) (.int .u8 ((L : Nat) : Int)))
        go_upto_region 32 with (refine wpList_store_row rfl 43 (.tmp 23) (.tmp 149) rfl q cs2 rfl rfl _ _ (unhide HST).old (unhide HST).size (unhide HST).same (unhide HST).one ?_)
        generalize (((W24.setRow q cs2).setCell ⟨g27, 0, none⟩ (.int .u64 ((S : Nat) : Int))).setCell ⟨g27, 1, none⟩ (.int .u64 ((E : Nat) : Int))).setCell ⟨g27, 2, none⟩ (.int .u8 ((L : Nat) : Int)) = W25 at *
        clear HM6 HST r0 r1 r2 rf0 rf1 rf2
        have ta0 : W25.cell? ⟨g26, 0, none⟩ = some (.int .u64 ((S : Nat) : Int)) := (unhide HM7).cell (g := g26) (vs := #[.int .u64 ((S : Nat) : Int), .int .u64 ((E : Nat) : Int), .int .u8 ((L : Nat) : Int)]) (t := 24) (by simp) 0
        have ta1 : W25.cell? ⟨g26, 1, none⟩ = some (.int .u64 ((E : Nat) : Int)) := (unhide HM7).cell (g := g26) (vs := #[.int .u64 ((S : Nat) : Int), .int .u64 ((E : Nat) : Int), .int .u8 ((L : Nat) : Int)]) (t := 24) (by simp) 1
        have ta2 : W25.cell? ⟨g26, 2, none⟩ = some (.int .u8 ((L : Nat) : Int)) := (unhide HM7).cell (g := g26) (vs := #[.int .u64 ((S : Nat) : Int), .int .u64 ((E : Nat) : Int), .int .u8 ((L : Nat) : Int)]) (t := 24) (by simp) 2
        have tb0 : W25.cell? ⟨g27, 0, none⟩ = some (.int .u64 ((S : Nat) : Int)) := (unhide HM7).cell (g := g27) (vs := #[.int .u64 ((S : Nat) : Int), .int .u64 ((E : Nat) : Int), .int .u8 ((L : Nat) : Int)]) (t := 24) (by simp) 0
        have tb1 : W25.cell? ⟨g27, 1, none⟩ = some (.int .u64 ((E : Nat) : Int)) := (unhide HM7).cell (g := g27) (vs := #[.int .u64 ((S : Nat) : Int), .int .u64 ((E : Nat) : Int), .int .u8 ((L : Nat) : Int)]) (t := 24) (by simp) 1
        have tb2 : W25.cell? ⟨g27, 2, none⟩ = some (.int .u8 ((L : Nat) : Int)) := (unhide HM7).cell (g := g27) (vs := #[.int .u64 ((S : Nat) : Int), .int .u64 ((E : Nat) : Int), .int .u8 ((L : Nat) : Int)]) (t := 24) (by simp) 2
        obtain ⟨cv0, cv1, cv2, cv3, cv4, cv5, cv6, cv7, cv8, cv9, cv10, cv11, cv12, rfl⟩ := arr13 (unhide HM7).tw.size
        obtain ⟨yw0, yw1, yw2, yw3, yw4, yw5, yw6, yw7, yw8, yw9, yw10, yw11, yw12⟩ := row13 (unhide HM7).row
        go_wp2_with fail
        refine (tkSame (unhide HM7)).mono ?_
        rintro x W40 ⟨rfl, hk40⟩
        have HT40 := hide hk40.bare
        clear hk40 ta0 ta1 ta2 tb0 tb1 tb2 yw0 yw1 yw2 yw3 yw4 yw5 yw6 yw7 yw8 yw9 yw10 yw11 yw12
        go_wp2_with fail
        exact ⟨⟨j + 1, A1, _, by omega, by go_num, unhide HT40⟩, by simp [intOf]; omega⟩
      · by_cases hk1 : kw = 1
        · skip
          have w0 : ¬ (kw : Int) = 0 := by omega
          have v0 : ((kw : Int) == 0) = false := beq_eq_false_iff_ne.2 w0
          have w1 : (kw : Int) = 1 := by omega
          have v1 : ((kw : Int) == 1) = true := beq_iff_eq.2 w1
          clear hk0 hk1
          obtain ⟨⟨S, E, L⟩, hSH⟩ : ∃ S, loadH A = S := ⟨_, rfl⟩
          obtain ⟨er2, hSE⟩ : ∃ S, loadE A = S := ⟨_, rfl⟩
          have HSV : Hid ((loadH A).val = .agg #[.int .u64 ((S : Nat) : Int), .int .u64 ((E : Nat) : Int), .int .u8 ((L : Nat) : Int)]) := by show _ = _; rw [hSH]; rfl
          have HSE := hide hSE
          clear hSH hSE
          have q0 : W21.cell? ⟨gk, 0, none⟩ = some (.int .u8 ((kw : Nat) : Int)) := (unhide HM3).cell (g := gk) (vs := #[.int .u8 ((kw : Nat) : Int), .int .u64 ((ks1 : Nat) : Int), .int .u64 ((ke1 : Nat) : Int), .int .u8 ((kl1 : Nat) : Int), .int .i64 kn, .int .i64 kk0, .int .i64 kk1, .int .i64 kk2, .int .i64 kk3]) (t := 47) (by simp) 0
          go_wp2_with fail
          refine (tkLoad (unhide HO) (unhide HM3)).mono ?_
          rintro x W22 ⟨rfl, hk22⟩
          rw [unhide HSV, unhide HSE]
          have HM4 := hide (hk22.less (M' := [(g26, Obj.cells #[.int .u64 0, .int .u64 0, .int .u8 0] 24 (0, 0)), (g27, Obj.cells #[.int .u64 0, .int .u64 0, .int .u8 0] 24 (0, 0)), (gk, Obj.cells #[.int .u8 ((kw : Nat) : Int), .int .u64 ((ks1 : Nat) : Int), .int .u64 ((ke1 : Nat) : Int), .int .u8 ((kl1 : Nat) : Int), .int .i64 kn, .int .i64 kk0, .int .i64 kk1, .int .i64 kk2, .int .i64 kk3] 47 (0, 0))]) (by simp))
          clear hk22 HM3 q0
          have r0 : W22.cell? ⟨g26, 0, none⟩ = some (.int .u64 0) := (unhide HM4).cell (g := g26) (vs := #[.int .u64 0, .int .u64 0, .int .u8 0]) (t := 24) (by simp) 0
          have r1 : W22.cell? ⟨g26, 1, none⟩ = some (.int .u64 0) := (unhide HM4).cell (g := g26) (vs := #[.int .u64 0, .int .u64 0, .int .u8 0]) (t := 24) (by simp) 1
          have r2 : W22.cell? ⟨g26, 2, none⟩ = some (.int .u8 0) := (unhide HM4).cell (g := g26) (vs := #[.int .u64 0, .int .u64 0, .int .u8 0]) (t := 24) (by simp) 2
          have rf0 := (unhide HM4).frozen (g := g26) (vs := #[.int .u64 0, .int .u64 0, .int .u8 0]) (t := 24) (by simp) 0
          have rf1 := (unhide HM4).frozen (g := g26) (vs := #[.int .u64 0, .int .u64 0, .int .u8 0]) (t := 24) (by simp) 1
          have rf2 := (unhide HM4).frozen (g := g26) (vs := #[.int .u64 0, .int .u64 0, .int .u8 0]) (t := 24) (by simp) 2
          have HM5 := hide ((unhide HM4).set3 (by have := unhide HGS; intro x hx; simp only [List.mem_cons, List.not_mem_nil, or_false] at hx; rcases hx with rfl | rfl <;> simp only <;> omega) (.int .u64 ((S : Nat) : Int)) (.int .u64 ((E : Nat) : Int)) (.int .u8 ((L : Nat) : Int)))
          go_upto_region 28 with fail
          generalize ((W22.setCell ⟨g26, 0, none⟩ (.int .u64 ((S : Nat) : Int))).setCell ⟨g26, 1, none⟩ (.int .u64 ((E : Nat) : Int))).setCell ⟨g26, 2, none⟩ (.int .u8 ((L : Nat) : Int)) = W23 at *
          clear HM4 r0 r1 r2 rf0 rf1 rf2
          go_wp2_with (refine wpList_load_row rfl 43 (.tmp 23) rfl q rfl _ _ _ _ (unhide HM5).row Try.underlying43 rfl (unhide HM5).size ?_)
          refine (tkRefLoad (unhide HM5) (unhide HOKA)).mono ?_
          rintro x W24 ⟨rfl, hk24⟩
          rw [unhide HSV, unhide HSE]
          have HM6 := hide (hk24.less (M' := [(g27, Obj.cells #[.int .u64 0, .int .u64 0, .int .u8 0] 24 (0, 0)), (g26, Obj.cells #[.int .u64 ((S : Nat) : Int), .int .u64 ((E : Nat) : Int), .int .u8 ((L : Nat) : Int)] 24 (0, 0)), (gk, Obj.cells #[.int .u8 ((kw : Nat) : Int), .int .u64 ((ks1 : Nat) : Int), .int .u64 ((ke1 : Nat) : Int), .int .u8 ((kl1 : Nat) : Int), .int .i64 kn, .int .i64 kk0, .int .i64 kk1, .int .i64 kk2, .int .i64 kk3] 47 (0, 0))]) (by simp))
          clear hk24 HM5
          have r0 : W24.cell? ⟨g27, 0, none⟩ = some (.int .u64 0) := (unhide HM6).cell (g := g27) (vs := #[.int .u64 0, .int .u64 0, .int .u8 0]) (t := 24) (by simp) 0
          have r1 : W24.cell? ⟨g27, 1, none⟩ = some (.int .u64 0) := (unhide HM6).cell (g := g27) (vs := #[.int .u64 0, .int .u64 0, .int .u8 0]) (t := 24) (by simp) 1
          have r2 : W24.cell? ⟨g27, 2, none⟩ = some (.int .u8 0) := (unhide HM6).cell (g := g27) (vs := #[.int .u64 0, .int .u64 0, .int .u8 0]) (t := 24) (by simp) 2
          have rf0 := (unhide HM6).frozen (g := g27) (vs := #[.int .u64 0, .int .u64 0, .int .u8 0]) (t := 24) (by simp) 0
          have rf1 := (unhide HM6).frozen (g := g27) (vs := #[.int .u64 0, .int .u64 0, .int .u8 0]) (t := 24) (by simp) 1
          have rf2 := (unhide HM6).frozen (g := g27) (vs := #[.int .u64 0, .int .u64 0, .int .u8 0]) (t := 24) (by simp) 2
          have HM7 := hide ((unhide HM6).set3 (by have := unhide HGS; intro x hx; simp only [List.mem_cons, List.not_mem_nil, or_false] at hx; rcases hx with rfl | rfl <;> simp only <;> omega) (.int .u64 ((S : Nat) : Int)) (.int .u64 ((E : Nat) : Int)) (.int .u8 ((L : Nat) : Int)))
          go_upto_region 32 with fail
          generalize ((W24.setCell ⟨g27, 0, none⟩ (.int .u64 ((S : Nat) : Int))).setCell ⟨g27, 1, none⟩ (.int .u64 ((E : Nat) : Int))).setCell ⟨g27, 2, none⟩ (.int .u8 ((L : Nat) : Int)) = W25 at *
          clear HM6 r0 r1 r2 rf0 rf1 rf2
          have ta0 : W25.cell? ⟨g26, 0, none⟩ = some (.int .u64 ((S : Nat) : Int)) := (unhide HM7).cell (g := g26) (vs := #[.int .u64 ((S : Nat) : Int), .int .u64 ((E : Nat) : Int), .int .u8 ((L : Nat) : Int)]) (t := 24) (by simp) 0
          have ta1 : W25.cell? ⟨g26, 1, none⟩ = some (.int .u64 ((E : Nat) : Int)) := (unhide HM7).cell (g := g26) (vs := #[.int .u64 ((S : Nat) : Int), .int .u64 ((E : Nat) : Int), .int .u8 ((L : Nat) : Int)]) (t := 24) (by simp) 1
          have ta2 : W25.cell? ⟨g26, 2, none⟩ = some (.int .u8 ((L : Nat) : Int)) := (unhide HM7).cell (g := g26) (vs := #[.int .u64 ((S : Nat) : Int), .int .u64 ((E : Nat) : Int), .int .u8 ((L : Nat) : Int)]) (t := 24) (by simp) 2
          have tb0 : W25.cell? ⟨g27, 0, none⟩ = some (.int .u64 ((S : Nat) : Int)) := (unhide HM7).cell (g := g27) (vs := #[.int .u64 ((S : Nat) : Int), .int .u64 ((E : Nat) : Int), .int .u8 ((L : Nat) : Int)]) (t := 24) (by simp) 0
          have tb1 : W25.cell? ⟨g27, 1, none⟩ = some (.int .u64 ((E : Nat) : Int)) := (unhide HM7).cell (g := g27) (vs := #[.int .u64 ((S : Nat) : Int), .int .u64 ((E : Nat) : Int), .int .u8 ((L : Nat) : Int)]) (t := 24) (by simp) 1
          have tb2 : W25.cell? ⟨g27, 2, none⟩ = some (.int .u8 ((L : Nat) : Int)) := (unhide HM7).cell (g := g27) (vs := #[.int .u64 ((S : Nat) : Int), .int .u64 ((E : Nat) : Int), .int .u8 ((L : Nat) : Int)]) (t := 24) (by simp) 2
          obtain ⟨cv0, cv1, cv2, cv3, cv4, cv5, cv6, cv7, cv8, cv9, cv10, cv11, cv12, rfl⟩ := arr13 (unhide HM7).tw.size
          obtain ⟨yw0, yw1, yw2, yw3, yw4, yw5, yw6, yw7, yw8, yw9, yw10, yw11, yw12⟩ := row13 (unhide HM7).row
          go_wp2_with fail
          refine (tkSame (unhide HM7)).mono ?_
          rintro x W40 ⟨rfl, hk40⟩
          have HT40 := hide hk40.bare
          clear hk40 ta0 ta1 ta2 tb0 tb1 tb2 yw0 yw1 yw2 yw3 yw4 yw5 yw6 yw7 yw8 yw9 yw10 yw11 yw12
          go_wp2_with fail
          exact ⟨⟨j + 1, A, _, by omega, by go_num, unhide HT40⟩, by simp [intOf]; omega⟩
        · by_cases hk2 : kw = 2
          · skip
            have w0 : ¬ (kw : Int) = 0 := by omega
            have v0 : ((kw : Int) == 0) = false := beq_eq_false_iff_ne.2 w0
            have w1 : ¬ (kw : Int) = 1 := by omega
            have v1 : ((kw : Int) == 1) = false := beq_eq_false_iff_ne.2 w1
            have w2 : (kw : Int) = 2 := by omega
            have v2 : ((kw : Int) == 2) = true := beq_iff_eq.2 w2
            clear hk0 hk1 hk2
            obtain ⟨A1, hr, hd⟩ := B_fuse A kn kn (unhide HKN)
            have HRF := hide hr
            have HDF := hide hd
            clear hr hd
            have q0 : W21.cell? ⟨gk, 0, none⟩ = some (.int .u8 ((kw : Nat) : Int)) := (unhide HM3).cell (g := gk) (vs := #[.int .u8 ((kw : Nat) : Int), .int .u64 ((ks1 : Nat) : Int), .int .u64 ((ke1 : Nat) : Int), .int .u8 ((kl1 : Nat) : Int), .int .i64 kn, .int .i64 kk0, .int .i64 kk1, .int .i64 kk2, .int .i64 kk3]) (t := 47) (by simp) 0
            have q4 : W21.cell? ⟨gk, 4, none⟩ = some (.int .i64 kn) := (unhide HM3).cell (g := gk) (vs := #[.int .u8 ((kw : Nat) : Int), .int .u64 ((ks1 : Nat) : Int), .int .u64 ((ke1 : Nat) : Int), .int .u8 ((kl1 : Nat) : Int), .int .i64 kn, .int .i64 kk0, .int .i64 kk1, .int .i64 kk2, .int .i64 kk3]) (t := 47) (by simp) 4
            go_wp2_with fail
            refine (tkFuse (unhide HM3) (unhide HDF)).mono ?_
            rintro x W22 ⟨rfl, hk22⟩
            have HM4 := hide hk22
            clear hk22 HM3 q0 q4
            have q4 : W22.cell? ⟨gk, 4, none⟩ = some (.int .i64 kn) := (unhide HM4).cell (g := gk) (vs := #[.int .u8 ((kw : Nat) : Int), .int .u64 ((ks1 : Nat) : Int), .int .u64 ((ke1 : Nat) : Int), .int .u8 ((kl1 : Nat) : Int), .int .i64 kn, .int .i64 kk0, .int .i64 kk1, .int .i64 kk2, .int .i64 kk3]) (t := 47) (by simp) 4
            go_wp2_with (refine wpList_load_row rfl 43 (.tmp 23) rfl q rfl _ _ _ _ (unhide HM4).row Try.underlying43 rfl (unhide HM4).size ?_)
            refine (tkRefFuse (unhide HM4) (unhide HRF)).mono ?_
            rintro x W23 ⟨cs2, rfl, hst⟩
            have HST := hide hst
            have HM7 := hide hst.next
            clear hst HM4 q4
            go_upto_region 32 with (refine wpList_store_row rfl 43 (.tmp 23) (.tmp 177) rfl q cs2 rfl rfl _ _ (unhide HST).old (unhide HST).size (unhide HST).same (unhide HST).one ?_)
            generalize W23.setRow q cs2 = W25 at *
            clear HST
            have ta0 : W25.cell? ⟨g26, 0, none⟩ = some (.int .u64 0) := (unhide HM7).cell (g := g26) (vs := #[.int .u64 0, .int .u64 0, .int .u8 0]) (t := 24) (by simp) 0
            have ta1 : W25.cell? ⟨g26, 1, none⟩ = some (.int .u64 0) := (unhide HM7).cell (g := g26) (vs := #[.int .u64 0, .int .u64 0, .int .u8 0]) (t := 24) (by simp) 1
            have ta2 : W25.cell? ⟨g26, 2, none⟩ = some (.int .u8 0) := (unhide HM7).cell (g := g26) (vs := #[.int .u64 0, .int .u64 0, .int .u8 0]) (t := 24) (by simp) 2
            have tb0 : W25.cell? ⟨g27, 0, none⟩ = some (.int .u64 0) := (unhide HM7).cell (g := g27) (vs := #[.int .u64 0, .int .u64 0, .int .u8 0]) (t := 24) (by simp) 0
            have tb1 : W25.cell? ⟨g27, 1, none⟩ = some (.int .u64 0) := (unhide HM7).cell (g := g27) (vs := #[.int .u64 0, .int .u64 0, .int .u8 0]) (t := 24) (by simp) 1
            have tb2 : W25.cell? ⟨g27, 2, none⟩ = some (.int .u8 0) := (unhide HM7).cell (g := g27) (vs := #[.int .u64 0, .int .u64 0, .int .u8 0]) (t := 24) (by simp) 2
            obtain ⟨cv0, cv1, cv2, cv3, cv4, cv5, cv6, cv7, cv8, cv9, cv10, cv11, cv12, rfl⟩ := arr13 (unhide HM7).tw.size
            obtain ⟨yw0, yw1, yw2, yw3, yw4, yw5, yw6, yw7, yw8, yw9, yw10, yw11, yw12⟩ := row13 (unhide HM7).row
            go_wp2_with fail
            refine (tkSame (unhide HM7)).mono ?_
            rintro x W40 ⟨rfl, hk40⟩
            have HT40 := hide hk40.bare
            clear hk40 ta0 ta1 ta2 tb0 tb1 tb2 yw0 yw1 yw2 yw3 yw4 yw5 yw6 yw7 yw8 yw9 yw10 yw11 yw12
            go_wp2_with fail
            exact ⟨⟨j + 1, A1, _, by omega, by go_num, unhide HT40⟩, by simp [intOf]; omega⟩
          · skip
            have w0 : ¬ (kw : Int) = 0 := by omega
            have v0 : ((kw : Int) == 0) = false := beq_eq_false_iff_ne.2 w0
            have w1 : ¬ (kw : Int) = 1 := by omega
            have v1 : ((kw : Int) == 1) = false := beq_eq_false_iff_ne.2 w1
            have w2 : ¬ (kw : Int) = 2 := by omega
            have v2 : ((kw : Int) == 2) = false := beq_eq_false_iff_ne.2 w2
            clear hk0 hk1 hk2
            obtain ⟨A1, hr, hd⟩ := B_crash A (unhide HOKA) kk0 kk1 kk2 kk3
            have HRF := hide hr
            have HDF := hide hd
            clear hr hd
            have q0 : W21.cell? ⟨gk, 0, none⟩ = some (.int .u8 ((kw : Nat) : Int)) := (unhide HM3).cell (g := gk) (vs := #[.int .u8 ((kw : Nat) : Int), .int .u64 ((ks1 : Nat) : Int), .int .u64 ((ke1 : Nat) : Int), .int .u8 ((kl1 : Nat) : Int), .int .i64 kn, .int .i64 kk0, .int .i64 kk1, .int .i64 kk2, .int .i64 kk3]) (t := 47) (by simp) 0
            have q5 : W21.cell? ⟨gk, 5, none⟩ = some (.int .i64 kk0) := (unhide HM3).cell (g := gk) (vs := #[.int .u8 ((kw : Nat) : Int), .int .u64 ((ks1 : Nat) : Int), .int .u64 ((ke1 : Nat) : Int), .int .u8 ((kl1 : Nat) : Int), .int .i64 kn, .int .i64 kk0, .int .i64 kk1, .int .i64 kk2, .int .i64 kk3]) (t := 47) (by simp) 5
            have q6 : W21.cell? ⟨gk, 6, none⟩ = some (.int .i64 kk1) := (unhide HM3).cell (g := gk) (vs := #[.int .u8 ((kw : Nat) : Int), .int .u64 ((ks1 : Nat) : Int), .int .u64 ((ke1 : Nat) : Int), .int .u8 ((kl1 : Nat) : Int), .int .i64 kn, .int .i64 kk0, .int .i64 kk1, .int .i64 kk2, .int .i64 kk3]) (t := 47) (by simp) 6
            have q7 : W21.cell? ⟨gk, 7, none⟩ = some (.int .i64 kk2) := (unhide HM3).cell (g := gk) (vs := #[.int .u8 ((kw : Nat) : Int), .int .u64 ((ks1 : Nat) : Int), .int .u64 ((ke1 : Nat) : Int), .int .u8 ((kl1 : Nat) : Int), .int .i64 kn, .int .i64 kk0, .int .i64 kk1, .int .i64 kk2, .int .i64 kk3]) (t := 47) (by simp) 7
            have q8 : W21.cell? ⟨gk, 8, none⟩ = some (.int .i64 kk3) := (unhide HM3).cell (g := gk) (vs := #[.int .u8 ((kw : Nat) : Int), .int .u64 ((ks1 : Nat) : Int), .int .u64 ((ke1 : Nat) : Int), .int .u8 ((kl1 : Nat) : Int), .int .i64 kn, .int .i64 kk0, .int .i64 kk1, .int .i64 kk2, .int .i64 kk3]) (t := 47) (by simp) 8
            go_wp2_with fail
            refine (tkCrash (unhide HM3) (unhide HDF)).mono ?_
            rintro x W22 ⟨rfl, hk22⟩
            have HM4 := hide hk22
            clear hk22 HM3 q0 q5 q6 q7 q8
            have q5 : W22.cell? ⟨gk, 5, none⟩ = some (.int .i64 kk0) := (unhide HM4).cell (g := gk) (vs := #[.int .u8 ((kw : Nat) : Int), .int .u64 ((ks1 : Nat) : Int), .int .u64 ((ke1 : Nat) : Int), .int .u8 ((kl1 : Nat) : Int), .int .i64 kn, .int .i64 kk0, .int .i64 kk1, .int .i64 kk2, .int .i64 kk3]) (t := 47) (by simp) 5
            have q6 : W22.cell? ⟨gk, 6, none⟩ = some (.int .i64 kk1) := (unhide HM4).cell (g := gk) (vs := #[.int .u8 ((kw : Nat) : Int), .int .u64 ((ks1 : Nat) : Int), .int .u64 ((ke1 : Nat) : Int), .int .u8 ((kl1 : Nat) : Int), .int .i64 kn, .int .i64 kk0, .int .i64 kk1, .int .i64 kk2, .int .i64 kk3]) (t := 47) (by simp) 6
            have q7 : W22.cell? ⟨gk, 7, none⟩ = some (.int .i64 kk2) := (unhide HM4).cell (g := gk) (vs := #[.int .u8 ((kw : Nat) : Int), .int .u64 ((ks1 : Nat) : Int), .int .u64 ((ke1 : Nat) : Int), .int .u8 ((kl1 : Nat) : Int), .int .i64 kn, .int .i64 kk0, .int .i64 kk1, .int .i64 kk2, .int .i64 kk3]) (t := 47) (by simp) 7
            have q8 : W22.cell? ⟨gk, 8, none⟩ = some (.int .i64 kk3) := (unhide HM4).cell (g := gk) (vs := #[.int .u8 ((kw : Nat) : Int), .int .u64 ((ks1 : Nat) : Int), .int .u64 ((ke1 : Nat) : Int), .int .u8 ((kl1 : Nat) : Int), .int .i64 kn, .int .i64 kk0, .int .i64 kk1, .int .i64 kk2, .int .i64 kk3]) (t := 47) (by simp) 8
            go_wp2_with (refine wpList_load_row rfl 43 (.tmp 23) rfl q rfl _ _ _ _ (unhide HM4).row Try.underlying43 rfl (unhide HM4).size ?_)
            refine (tkRefCrash (unhide HM4) (unhide HRF)).mono ?_
            rintro x W23 ⟨cs2, rfl, hst⟩
            have HST := hide hst
            have HM7 := hide hst.next
            clear hst HM4 q5 q6 q7 q8
            go_upto_region 32 with (refine wpList_store_row rfl 43 (.tmp 23) (.tmp 134) rfl q cs2 rfl rfl _ _ (unhide HST).old (unhide HST).size (unhide HST).same (unhide HST).one ?_)
            generalize W23.setRow q cs2 = W25 at *
            clear HST
            have ta0 : W25.cell? ⟨g26, 0, none⟩ = some (.int .u64 0) := (unhide HM7).cell (g := g26) (vs := #[.int .u64 0, .int .u64 0, .int .u8 0]) (t := 24) (by simp) 0
            have ta1 : W25.cell? ⟨g26, 1, none⟩ = some (.int .u64 0) := (unhide HM7).cell (g := g26) (vs := #[.int .u64 0, .int .u64 0, .int .u8 0]) (t := 24) (by simp) 1
            have ta2 : W25.cell? ⟨g26, 2, none⟩ = some (.int .u8 0) := (unhide HM7).cell (g := g26) (vs := #[.int .u64 0, .int .u64 0, .int .u8 0]) (t := 24) (by simp) 2
            have tb0 : W25.cell? ⟨g27, 0, none⟩ = some (.int .u64 0) := (unhide HM7).cell (g := g27) (vs := #[.int .u64 0, .int .u64 0, .int .u8 0]) (t := 24) (by simp) 0
            have tb1 : W25.cell? ⟨g27, 1, none⟩ = some (.int .u64 0) := (unhide HM7).cell (g := g27) (vs := #[.int .u64 0, .int .u64 0, .int .u8 0]) (t := 24) (by simp) 1
            have tb2 : W25.cell? ⟨g27, 2, none⟩ = some (.int .u8 0) := (unhide HM7).cell (g := g27) (vs := #[.int .u64 0, .int .u64 0, .int .u8 0]) (t := 24) (by simp) 2
            obtain ⟨cv0, cv1, cv2, cv3, cv4, cv5, cv6, cv7, cv8, cv9, cv10, cv11, cv12, rfl⟩ := arr13 (unhide HM7).tw.size
            obtain ⟨yw0, yw1, yw2, yw3, yw4, yw5, yw6, yw7, yw8, yw9, yw10, yw11, yw12⟩ := row13 (unhide HM7).row
            go_wp2_with fail
            refine (tkSame (unhide HM7)).mono ?_
            rintro x W40 ⟨rfl, hk40⟩
            have HT40 := hide hk40.bare
            clear hk40 ta0 ta1 ta2 tb0 tb1 tb2 yw0 yw1 yw2 yw3 yw4 yw5 yw6 yw7 yw8 yw9 yw10 yw11 yw12
            go_wp2_with fail
            exact ⟨⟨j + 1, A1, _, by omega, by go_num, unhide HT40⟩, by simp [intOf]; omega⟩
    · have ej : j = n3 := by omega
      subst ej
      have HBW : Hid (Below w.heap.size w wr) := (unhide HBF).trans ((unhide HT).below.mono (unhide HBF).size)
      go_wp2_with fail
      refine (unhide HA _).mono ?_
      rintro x W40 ⟨rfl, hb40⟩
      have HFIN : Hid (Below w.heap.size w W40) := (unhide HBW).trans (hb40.mono (unhide HBW).size)
      clear hb40
      go_wp2_with fail
      go_ret
      exact ⟨rfl, unhide HFIN⟩
end Go.Proofs.Ytoabpjdpdcpdlaa
