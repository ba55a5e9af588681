/- WireOwn: the walk. No statement of the seat is proved here. -/
import Derived.Test.YtifnjdplbdpelaaWireFar
import Derived.Test.YtifnjdplbdpelaaWireRoom
namespace Go.Proofs.Ytifnjdplbdpelaa
open Go.RowKit Go.Lib

/-- One block alone has changed. -/
structure Only (g : Nat) (A B : World) : Prop where
  os : B.os = A.os
  tape : B.tape = A.tape
  output : B.output = A.output
  size : B.heap.size = A.heap.size
  block : ∀ k, k ≠ g → B.heap[k]? = A.heap[k]?
theorem Only.refl (g : Nat) (A : World) : Only g A A := ⟨rfl, rfl, rfl, rfl, fun _ _ => rfl⟩
theorem Only.set {g : Nat} {A B : World} (h : Only g A B) {p : Addr} (hp : p.block = g) (v : Value) : Only g A (B.setCell p v) :=
  ⟨h.os, h.tape, h.output, by simpa [World.setCell] using h.size, fun k hk => (Below.heap_setCell _ _ _ _ (by rw [hp]; exact hk)).trans (h.block k hk)⟩
theorem Only.below {g n : Nat} {A B : World} (h : Only g A B) (hg : n ≤ g) : Below n A B := ⟨h.os, h.tape, h.output, Nat.le_of_eq h.size.symm, fun k hk => h.block k (by omega)⟩
theorem Only.bytes {g : Nat} {A B : World} (h : Only g A B) {u : Value} {bs : List UInt8} (hb : Bytes A u bs) (hne : ∀ k, u.ownBlock = some k → k ≠ g) : Bytes B u bs := hb.kept fun k hk _ => h.block k (hne k hk)

theorem xor255 (x : UInt8) : bits .xor .u8 ((x.toNat : Nat) : Int) 255 = (((UInt8.ofNat (x.toNat ^^^ 255)).toNat : Nat) : Int) := by
  have hx := x.toNat_lt
  have hl : x.toNat ^^^ 255 < 256 := Nat.xor_lt_two_pow (n := 8) (by omega) (by omega)
  rw [u8_toNat hl]
  exact u8_xor_nat x.toNat 255 (by omega) (by omega)
theorem own_form {w W : World} {v : Value} {bs : List UInt8} (h : Own w v bs W) (hne : 0 < bs.length) : ∃ g c, v = .slice (some ⟨g, 0, none⟩) bs.length c ∧ bs.length ≤ c ∧ w.heap.size ≤ g ∧ g < W.heap.size := by
  rcases h.own.2 with ⟨_, hn⟩ | ⟨g, cap, cur, hv, _, hg, h1, _⟩
  · omega
  · exact ⟨g, cap, hv, h1, h.new g (by rw [hv]; rfl), (Array.getElem?_eq_some_iff.1 hg).1⟩
/-- A byte of a row of ours, read and written. -/
theorem row_turn {W : World} {g n c : Nat} {bs : List UInt8} (h : W.ownsRow 0 5 1 (.slice (some ⟨g, 0, none⟩) n c) bs.length (bs.map bv)) (hl : bs.length = n) {k : Nat} (hk : k < n) :
    ∃ x : UInt8, W.cell? ⟨g, k, none⟩ = some (.int .u8 ((x.toNat : Nat) : Int)) ∧ W.frozen? ⟨g, k, none⟩ = false ∧ ∃ bs' : List UInt8, bs'.length = n ∧ (W.setCell ⟨g, k, none⟩ (.int .u8 (((UInt8.ofNat (x.toNat ^^^ 255)).toNat : Nat) : Int))).ownsRow 0 5 1 (.slice (some ⟨g, 0, none⟩) n c) bs'.length (bs'.map bv) := by
  obtain ⟨b, e, hc, hf, hs⟩ := own_at h hl hk
  simp only [Option.some.injEq, Addr.mk.injEq, and_true] at e
  subst e
  exact ⟨_, hc, hf, bs.set k (UInt8.ofNat ((bs.getD k 0).toNat ^^^ 255)), by rw [List.length_set, hl], hs _⟩

set_option maxRecDepth 100000 in
set_option maxHeartbeats 8000000 in
theorem wireOwn_any (hc : WireOk) (a : Option Addr) (n c : Nat) (bs s0 : List UInt8) (x0 : Int) (w : World) (h : Bytes w (.slice a n c) bs) (hx0 : InR x0) : Calls Try.prog 7 #[.slice a n c, .int .i64 x0, .string ⟨s0.toArray⟩] w fun e w' => e = .returned (.bool true) ∧ Below w.heap.size w w' := by
  obtain ⟨hl, hnc⟩ := bytes_len h
  have HC := hide hc
  have HAW := hide (wAwake_any hc)
  have hsz : (⟨s0.toArray⟩ : ByteArray).size = s0.length := by simp [ByteArray.size]
  obtain ⟨z0, hz0⟩ : ∃ z : ByteArray, z = ⟨s0.toArray⟩ := ⟨_, rfl⟩
  rw [← hz0] at hsz ⊢
  obtain ⟨m0, hm0⟩ : ∃ m0, m0 = s0.length := ⟨_, rfl⟩
  rw [← hm0] at hsz
  have HZ0 := hide hz0
  have HM0 := hide hm0
  have HL := hide hl
  clear hz0 hm0
  by_cases hbig : n > 40
  · have g1 : ((n : Nat) : Int) > 40 := by omega
    clear h hc hl hnc hbig hx0
    go_enter Try.func7, Try.ntmps7
    go_wp2_with fail
    refine (unhide HAW _).mono ?_
    rintro e w' ⟨rfl, hb⟩
    have HB := hide hb
    clear hb
    go_wp2
    go_ret
    exact ⟨rfl, unhide HB⟩
  have g1 : ¬ ((n : Nat) : Int) > 40 := by omega
  by_cases h400 : m0 > 40
  · have g2 : ((m0 : Nat) : Int) > 40 := by omega
    clear h hc hl hnc hbig hx0 h400
    go_enter Try.func7, Try.ntmps7
    go_wp2_with fail
    refine (unhide HAW _).mono ?_
    rintro e w' ⟨rfl, hb⟩
    have HB := hide hb
    clear hb
    go_wp2
    go_ret
    exact ⟨rfl, unhide HB⟩
  have g2 : ¬ ((m0 : Nat) : Int) > 40 := by omega
  obtain ⟨m, hm⟩ : ∃ m, m = n + 100 := ⟨_, rfl⟩
  have hmi : ((n : Nat) : Int) + 100 = ((m : Nat) : Int) := by omega
  have hm200 : m ≤ 200 := by omega
  obtain ⟨Z, hZ, hrun⟩ := wMakeRoom m (by omega)
  obtain ⟨i, hi, hz0, hz1, hz2⟩ := infoByte
  obtain ⟨W1, hr, hR1, _⟩ := (Room.made w hZ (by omega)).append (P := Try.prog) (h.alloc (.cells Z 5)) (by simp; omega) 22 22 5 i Try.underlying22 hi hz1
  simp only [List.length_nil, Nat.zero_add, List.nil_append, hl] at hr hR1
  have HRUN := hide hr
  have HR1 := hide hR1
  have HH := hide h
  have HN : Hid (n ≤ 40) := by show _ ≤ _; omega
  have HM3 : Hid (m0 ≤ 40) := by show _ ≤ _; omega
  have HX0 := hide hx0
  have HMN := hide hm
  clear h hc hl hbig h400 hx0 hr hR1 hm
  go_enter Try.func7, Try.ntmps7
  go_wp2_with (at_builtin; refine wpList_append_run rfl _ _ 22 22 rfl _ _ _ rfl rfl (unhide HRUN) ?_)
  have hBR := (unhide HR1).bytes
  rw [unhide HL] at hBR
  have HBR1 := hide hBR
  have HG0 : Hid (w.heap.size < W1.heap.size) := (unhide HR1).lt
  have HB1 := hide (unhide HR1).bb
  clear hBR hrun hZ hmi
  go_wp2_with fail
  refine ((unhide HC).num _ bs x0 _ (unhide HX0) (unhide HBR1) (by have := unhide HL; have := unhide HN; omega)).mono ?_
  rintro e W2 ⟨v, rfl, hO⟩
  obtain ⟨gx, cx, rfl, hcx, hgx1, hgx2⟩ := own_form hO (by rw [List.length_append]; have := numB_pos x0; omega)
  obtain ⟨X, hX⟩ : ∃ X, X = (bs ++ numB x0).length := ⟨_, rfl⟩
  rw [← hX] at hO hcx ⊢
  have HX := hide hX
  have HXO := hide hO
  have HX2 := hide hO.bb
  have HBR2 := hide ((unhide HBR1).laterW2 hO.bb)
  clear hO hX
  go_wp2_with fail
  rw [unhide HZ0]
  refine ((unhide HC).text _ bs s0 _ (unhide HBR2) (by have := unhide HL; have := unhide HN; omega) (by have := unhide HM0; have := unhide HM3; omega)).mono ?_
  rintro e W3 ⟨v, rfl, hO⟩
  rw [← unhide HZ0]
  obtain ⟨gy, cy, rfl, hcy, hgy1, hgy2⟩ := own_form hO (by rw [List.length_append, textB, List.length_append]; have := numB_pos ((s0.length : Nat) : Int); omega)
  obtain ⟨Y, hY⟩ : ∃ Y, Y = (bs ++ textB s0).length := ⟨_, rfl⟩
  have hY200 : Y ≤ 200 := by
    have h1 := numB_ten (n := ((s0.length : Nat) : Int)) (by unfold InR; have := unhide HM0; have := unhide HM3; omega)
    rw [hY, List.length_append, textB, List.length_append, unhide HL]
    have := unhide HM0; have := unhide HM3; have := unhide HN; omega
  rw [← hY] at hO hcy ⊢
  have HY := hide hY
  have HYO := hide hO
  have HY3 := hide hO.bb
  have HXO3 := hide ((unhide HXO).later hO.bb)
  have HBR3 := hide ((unhide HBR2).laterW2 hO.bb)
  clear hO hY HXO HBR2
  go_wp2_with fail
  refine ((unhide HC).num _ bs x0 _ (unhide HX0) (unhide HBR3) (by have := unhide HL; have := unhide HN; omega)).mono ?_
  rintro e W4 ⟨v, rfl, hO⟩
  obtain ⟨gz, cz, rfl, hcz, hgz1, hgz2⟩ := own_form hO (by rw [List.length_append]; have := numB_pos x0; omega)
  rw [← unhide HX] at hO hcz ⊢
  have HBZ := hide hO.bytes
  have HZ4 := hide hO.bb
  have HYO4 := hide ((unhide HYO).later hO.bb)
  have HBX := hide ((unhide HXO3).later hO.bb).bytes
  have HR4 := hide (((unhide HR1).later ((unhide HX2).trans (((unhide HY3).mono (unhide HX2).size).trans (hO.bb.mono (by have := (unhide HX2).size; have := (unhide HY3).size; omega))))))
  have HB4 := hide (unhide HR4).bb
  clear hO HYO HXO3 HBR3 HBR1 HR1
  have hsz12 := (unhide HX2).size
  have hsz23 := (unhide HY3).size
  have hsz34 := (unhide HZ4).size
  have HNE : Hid (gx ≠ gy ∧ gz ≠ gy ∧ gx ≠ w.heap.size ∧ gz ≠ w.heap.size ∧ gy ≠ w.heap.size ∧ w.heap.size ≤ gy) := by
    show _ ∧ _
    have := unhide HG0
    refine ⟨?_, ?_, ?_, ?_, ?_, ?_⟩ <;> omega
  clear hgx1 hgx2 hgy1 hgy2 hgz1 hgz2 hsz12 hsz23 hsz34
  have HYR : Hid (∃ ys : List UInt8, ys.length = Y ∧ W4.ownsRow 0 5 1 (.slice (some ⟨gy, 0, none⟩) Y cy) ys.length (ys.map bv)) := ⟨_, (unhide HY).symm, (unhide HYO4).own⟩
  clear HYO4
  go_wp2
  go_loopw [39] (fun k W => ∃ j : Nat, j ≤ Y ∧ k = .int .i64 ((j : Nat) : Int) ∧ Only gy W4 W ∧ ∃ ys : List UInt8, ys.length = Y ∧ W.ownsRow 0 5 1 (.slice (some ⟨gy, 0, none⟩) Y cy) ys.length (ys.map bv)) (fun k _ => Y - (intOf k).toNat)
  case atStart => exact ⟨0, by omega, rfl, Only.refl _ _, unhide HYR⟩
  case round =>
    obtain ⟨j, hj, rfl, hon, ys, hyl, hrow⟩ := hrel
    have HON := hide hon
    clear hon
    by_cases hlt : j < Y
    · have hji : ((j : Nat) : Int) < ((Y : Nat) : Int) := by omega
      obtain ⟨b1, hcell, hfz, ys', hyl', hrow'⟩ := row_turn hrow hyl hlt
      have hxo := xor255 b1
      have HRW := hide hrow'
      have HYL := hide hyl'
      clear hrow hrow' hyl hyl'
      generalize UInt8.ofNat (b1.toNat ^^^ 255) = b2 at *
      go_wp2_with fail
      exact ⟨⟨j + 1, by omega, by go_num, (unhide HON).set rfl _, ys', unhide HYL, unhide HRW⟩, by simp [intOf]; omega⟩
    · have hji : ¬ ((j : Nat) : Int) < ((Y : Nat) : Int) := by omega
      have HB5 := hide ((unhide HB4).trans ((unhide HON).below (unhide HNE).2.2.2.2.2))
      have HBX5 := hide ((unhide HON).bytes (unhide HBX) (fun k hk => by simp [Value.ownBlock] at hk; rw [← hk]; exact (unhide HNE).1))
      have HBZ5 := hide ((unhide HON).bytes (unhide HBZ) (fun k hk => by simp [Value.ownBlock] at hk; rw [← hk]; exact (unhide HNE).2.1))
      have HH5 := hide ((unhide HH).laterW2 (unhide HB5))
      have HR5 := hide ((unhide HR4).to (unhide HB5) ((unhide HON).block _ (fun e => (unhide HNE).2.2.2.2.1 e.symm)))
      have hBR := (unhide HR5).bytes
      rw [unhide HL] at hBR
      have HBR5 := hide hBR
      clear hBR hrow hyl ys HON HYR HR4 HB4 HBX HBZ
      have HW5 : Hid (w.heap.size < wr.heap.size) := (unhide HR5).lt
      go_wp2_with fail
      refine (wSame_true _ _ (bs ++ numB x0) _ (unhide HBX5) (unhide HBZ5)).mono ?_
      rintro e w6 ⟨rfl, hw⟩
      rw [hw]
      clear hw w6
      go_wp2_with fail
      refine (wSame_true _ _ bs _ (unhide HBR5) (unhide HH5)).mono ?_
      rintro e w6 ⟨rfl, hw⟩
      rw [hw]
      clear hw w6
      have HRR : Hid (∃ ys : List UInt8, ys.length = n ∧ wr.ownsRow 0 5 1 (.slice (some ⟨w.heap.size, 0, none⟩) n m) ys.length (ys.map bv)) := by
        have h1 := (unhide HR5).isOwn.own
        rw [unhide HL] at h1
        exact ⟨bs, unhide HL, by rw [unhide HL]; exact h1⟩
      clear HBR5 HH5 HR5
      have hn40 : n ≤ 40 := unhide HN
      generalize wr = w5 at *
      go_wp2
      go_loopw [61] (fun k W => ∃ j : Nat, j ≤ n ∧ k = .int .i64 ((j : Nat) : Int) ∧ Only w.heap.size w5 W ∧ ∃ ys : List UInt8, ys.length = n ∧ W.ownsRow 0 5 1 (.slice (some ⟨w.heap.size, 0, none⟩) n m) ys.length (ys.map bv)) (fun k _ => n - (intOf k).toNat)
      case atStart => exact ⟨0, by omega, rfl, Only.refl _ _, unhide HRR⟩
      case round =>
        obtain ⟨j, hj, rfl, hon, ys, hyl, hrow⟩ := hrel
        have HON := hide hon
        clear hon
        by_cases hlt : j < n
        · have hji : ((j : Nat) : Int) < ((n : Nat) : Int) := by omega
          obtain ⟨b1, hcell, hfz, ys', hyl', hrow'⟩ := row_turn hrow hyl hlt
          have hxo := xor255 b1
          have HRW := hide hrow'
          have HYL := hide hyl'
          clear hrow hrow' hyl hyl'
          generalize UInt8.ofNat (b1.toNat ^^^ 255) = b2 at *
          go_wp2_with fail
          exact ⟨⟨j + 1, by omega, by go_num, (unhide HON).set rfl _, ys', unhide HYL, unhide HRW⟩, by simp [intOf]; omega⟩
        · have hji : ¬ ((j : Nat) : Int) < ((n : Nat) : Int) := by omega
          have HB6 := hide ((unhide HB5).trans ((unhide HON).below (Nat.le_refl _)))
          have HBX6 := hide ((unhide HON).bytes (unhide HBX5) (fun k hk => by simp [Value.ownBlock] at hk; rw [← hk]; exact (unhide HNE).2.2.1))
          have HBZ6 := hide ((unhide HON).bytes (unhide HBZ5) (fun k hk => by simp [Value.ownBlock] at hk; rw [← hk]; exact (unhide HNE).2.2.2.1))
          have HH6 := hide ((unhide HH).laterW2 (unhide HB6))
          have hXn : ((X : Nat) : Int) ≥ ((n : Nat) : Int) := by have := unhide HX; rw [List.length_append, unhide HL] at this; omega
          have hXn2 : n ≤ X := by omega
          have hBT := (unhide HBX6).take (m := n) hXn2 (unhide HX).symm
          rw [show (bs ++ numB x0).take n = bs by rw [← unhide HL]; exact List.take_left' rfl] at hBT
          have HBT := hide hBT
          obtain ⟨q, q'⟩ := head_run (a := some ⟨gx, 0, none⟩) (n := X) (c := cx) (h := n) (by omega)
          clear hrow hyl ys HON HRR HB5 HBX5 HBZ5 hBT hXn2
          go_wp2_with fail
          refine (wSame_true _ _ (bs ++ numB x0) _ (unhide HBX6) (unhide HBZ6)).mono ?_
          rintro e w7 ⟨rfl, hw⟩
          rw [hw]
          clear hw w7
          go_wp2_with fail
          refine (wSame_true _ _ bs _ (unhide HBT) (unhide HH6)).mono ?_
          rintro e w7 ⟨rfl, hw⟩
          rw [hw]
          clear hw w7
          go_wp2_with fail
          refine (unhide HAW _).mono ?_
          rintro e w8 ⟨rfl, hb⟩
          have HB8 := hide ((unhide HB6).trans (hb.mono (unhide HB6).size))
          clear hb
          go_wp2_with fail
          go_ret
          exact ⟨rfl, unhide HB8⟩
end Go.Proofs.Ytifnjdplbdpelaa
