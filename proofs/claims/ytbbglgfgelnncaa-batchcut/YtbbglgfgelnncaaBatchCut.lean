/- BatchCut, walked over BatchOk. -/
import Derived.Test.YtbbglgfgelnncaaBatchLong
import Derived.Test.YtbbglgfgelnncaaGenWant
namespace Go.Proofs.Ytbbglgfgelnncaa
open Go.RowKit

theorem total_flatten (rows : List (List UInt8)) : total rows = rows.flatten.length := by
  induction rows with
  | nil => rfl
  | cons r rows ih => show r.length + total rows = _; rw [List.flatten_cons, List.length_append, ih]
theorem CutIs.flat {b : List UInt8} {rows : List (List UInt8)} (h : CutIs b rows) : rows.flatten = b := by
  obtain ⟨out, last, rfl, rfl, _⟩ := h
  simp
/-- How many rows, and how long each is. -/
theorem CutIs.count {b : List UInt8} {rows : List (List UInt8)} (h : CutIs b rows) : (rows.length : Int) = max 1 (((b.length : Int) + 4096 - 1) / 4096) ∧ (∀ (i : Nat) x, rows[i]? = some x → x.length ≤ 4096 ∧ (i + 1 < rows.length → x.length = 4096)) := by
  obtain ⟨out, last, rfl, rfl, h1, h2, h3⟩ := h
  have hf := flat_len h1
  refine ⟨?_, fun i x hx => ?_⟩
  · rw [List.length_append, List.length_append, hf, List.length_singleton]
    have h4 : last.length = 0 → out.length = 0 := fun h => by
      rcases h3 with h3 | h3
      · exact absurd (List.eq_nil_of_length_eq_zero h) h3
      · rw [h3]; rfl
    omega
  · by_cases hi : i < out.length
    · rw [List.getElem?_append_left hi] at hx
      have := h1 x (List.mem_of_getElem? hx)
      exact ⟨by omega, fun _ => this⟩
    · have hi2 := (List.getElem?_eq_some_iff.1 hx).1
      rw [List.length_append, List.length_singleton] at hi2
      have e : i = out.length := by omega
      rw [e, List.getElem?_append_right (Nat.le_refl _), Nat.sub_self] at hx
      cases hx
      exact ⟨h2, fun h => by rw [List.length_append, List.length_singleton] at h; omega⟩
theorem CutIs.ok {b : List UInt8} {rows : List (List UInt8)} (h : CutIs b rows) (hl : b.length ≤ 30000) : okRows rows ∧ rows.length ≤ 8 := by
  have h1 := h.count
  have hlen : rows.length ≤ 8 ∧ 1 ≤ rows.length := by omega
  refine ⟨⟨by omega, fun r hr => ?_⟩, hlen.1⟩
  obtain ⟨i, hi⟩ := List.mem_iff_getElem?.1 hr
  exact (h1.2 i r hi).1

/-- Bytes that may be written, whatever they are. -/
def Loose (lo hi : Nat) (W : World) (u : Value) (n : Nat) : Prop := (n = 0 ∧ ∃ a c, u = .slice a 0 c) ∨ ∃ ad c, u = .slice (some ad) n c ∧ n ≤ c ∧ lo ≤ ad.block ∧ ad.block < hi ∧ ∀ j, j < n → (∃ y : Nat, y < 256 ∧ W.cell? (ad.add j) = some (.int .u8 ((y : Nat) : Int))) ∧ W.frozen? (ad.add j) = false
theorem MineB.loose {w W : World} {u : Value} {x : List UInt8} (h : MineB w W u x) : Loose w.heap.size W.heap.size W u x.length := by
  obtain ⟨hb, hn, hf⟩ := h
  by_cases h0 : x = []
  · rw [h0]
    rcases hb with ⟨rfl, _⟩ | ⟨ad, c, rfl, _⟩
    · exact .inl ⟨rfl, _, _, rfl⟩
    · exact .inl ⟨rfl, _, _, by rw [h0]; rfl⟩
  · have hlt := hb.lt h0
    rcases hb with ⟨_, h1⟩ | ⟨ad, c, rfl, h1, h2, h3⟩
    · exact absurd h1 h0
    · refine .inr ⟨ad, c, rfl, h1, hn h0 _ rfl, hlt _ rfl, fun j hj => ⟨⟨(x.getD j 0).toNat, (x.getD j 0).toNat_lt, h3 j _ ?_⟩, hf ad _ c rfl j hj⟩⟩
      rw [List.getElem?_map, List.getElem?_eq_getElem hj, List.getD_eq_getElem?_getD, List.getElem?_eq_getElem hj]
      rfl
theorem frozen_later {W W' : World} {p : Addr} {v : Value} (h : W.cell? p = some v) (hb : Below W.heap.size W W') : W'.frozen? p = W.frozen? p := World.frozen?_of_block (hb.block p.block (World.block_lt_of_cell? _ _ h))
theorem Loose.later {lo hi : Nat} {W W' : World} {u : Value} {n : Nat} (h : Loose lo hi W u n) (hb : Below W.heap.size W W') : Loose lo hi W' u n := by
  rcases h with h | ⟨ad, c, rfl, h1, h2, h3, h4⟩
  · exact .inl h
  · refine .inr ⟨ad, c, rfl, h1, h2, h3, fun j hj => ?_⟩
    obtain ⟨⟨y, hy, hc⟩, hf⟩ := h4 j hj
    exact ⟨⟨y, hy, (hb.cell (p := ad.add j) (World.block_lt_of_cell? _ _ hc)).trans hc⟩, (frozen_later hc hb).trans hf⟩
theorem Loose.form {lo hi : Nat} {W : World} {u : Value} {n : Nat} (h : Loose lo hi W u n) : ∃ a c, u = .slice a n c := by
  rcases h with ⟨rfl, a, c, rfl⟩ | ⟨ad, c, rfl, _⟩
  · exact ⟨_, _, rfl⟩
  · exact ⟨_, _, rfl⟩
/-- A byte of it. -/
theorem Loose.at {lo hi : Nat} {W : World} {a : Option Addr} {n c : Nat} (h : Loose lo hi W (.slice a n c) n) {j : Nat} (hj : j < n) : ∃ g o y, a = some ⟨g, o, none⟩ ∧ y < 256 ∧ W.cell? ⟨g, o + j, none⟩ = some (.int .u8 ((y : Nat) : Int)) ∧ W.frozen? ⟨g, o + j, none⟩ = false ∧ lo ≤ g ∧ g < hi := by
  rcases h with ⟨h0, _⟩ | ⟨ad, c', hv, h1, h2, h3, h4⟩
  · omega
  · simp only [Value.slice.injEq] at hv
    obtain ⟨rfl, _, rfl⟩ := hv
    obtain ⟨⟨y, hy, hc⟩, hf⟩ := h4 j hj
    obtain ⟨g, o, spot⟩ := ad
    obtain ⟨⟨_, _, hc0⟩, _⟩ := h4 0 (by omega)
    have hspot : spot = none := by simpa [Addr.add] using World.cell?_spot hc0
    subst hspot
    rw [Addr.add_mid] at hc hf
    exact ⟨g, o, y, rfl, hy, hc, hf, h2, h3⟩
/-- A byte is written: all is loose as it was. -/
theorem Loose.set {lo hi : Nat} {W : World} {u : Value} {n : Nat} (h : Loose lo hi W u n) (p : Addr) (y : Nat) (hy : y < 256) (hp : (W.cell? p).isSome = true) : Loose lo hi (W.setCell p (.int .u8 ((y : Nat) : Int))) u n := by
  rcases h with h | ⟨ad, c, rfl, h1, h2, h3, h4⟩
  · exact .inl h
  · refine .inr ⟨ad, c, rfl, h1, h2, h3, fun j hj => ?_⟩
    obtain ⟨⟨z, hz, hc⟩, hf⟩ := h4 j hj
    refine ⟨?_, by rw [World.frozen?_setCell]; exact hf⟩
    by_cases e : p = ad.add j
    · rw [← e]
      exact ⟨y, hy, World.cell?_setCell_same' _ _ _ hp⟩
    · refine ⟨z, hz, ?_⟩
      rw [World.cell?_setCell_other]
      · exact hc
      · exact e
/-- Rows of such bytes. -/
theorem loose_set {lo hi : Nat} {W : World} {v : Value} {ns : List Nat} (h : ListAt (Loose lo hi) W v ns) (p : Addr) (x y : Nat) (hy : y < 256) (hp : W.cell? p = some (.int .u8 ((x : Nat) : Int))) : ListAt (Loose lo hi) (W.setCell p (.int .u8 ((y : Nat) : Int))) v ns := by
  rcases h with h | ⟨b, o, c, hv, hl, hr⟩
  · exact .inl h
  · refine .inr ⟨b, o, c, hv, hl, fun i n hn => ?_⟩
    obtain ⟨u, h1, h2⟩ := hr i n hn
    refine ⟨u, ?_, h2.set p y hy (by rw [hp]; rfl)⟩
    rw [World.cell?_setCell_other]
    · exact h1
    · intro e
      rw [e, h1] at hp
      obtain ⟨a, c, rfl⟩ := h2.form
      cases hp
theorem mine_loose {w W : World} {v : Value} {rows : List (List UInt8)} (h : ListAt (MineB w) W v rows) : ListAt (Loose w.heap.size W.heap.size) W v (rows.map List.length) := by
  rcases h with ⟨h, rfl⟩ | ⟨b, o, c, hv, hl, hr⟩
  · exact .inl ⟨h, rfl⟩
  · refine .inr ⟨b, o, c, by rw [List.length_map]; exact hv, by rw [List.length_map]; exact hl, fun i n hn => ?_⟩
    rw [List.getElem?_map] at hn
    cases hx : rows[i]? with
    | none => rw [hx] at hn; cases hn
    | some x =>
      rw [hx] at hn
      cases hn
      obtain ⟨u, h1, h2⟩ := hr i x hx
      exact ⟨u, h1, h2.loose⟩

/-- While the rows are written over. -/
structure CutLoop (w : World) (hi : Nat) (v : Value) (ns : List Nat) (k : Value) (b : List UInt8) (W : World) : Prop where
  ls : ListAt (Loose w.heap.size hi) W v ns
  kp : Bytes W k b
  kn : b ≠ [] → ∀ q, k.ownBlock = some q → hi ≤ q
  bb : Below w.heap.size w W
theorem CutLoop.set {w W : World} {hi : Nat} {v k : Value} {ns : List Nat} {b : List UInt8} (h : CutLoop w hi v ns k b W) {g o x y : Nat} (hy : y < 256) (hp : W.cell? ⟨g, o, none⟩ = some (.int .u8 ((x : Nat) : Int))) (hg : w.heap.size ≤ g) (hg2 : g < hi) : CutLoop w hi v ns k b (W.setCell ⟨g, o, none⟩ (.int .u8 ((y : Nat) : Int))) := by
  refine ⟨loose_set h.ls _ x y hy hp, ?_, h.kn, h.bb.setCell (p := ⟨g, o, none⟩) hg _⟩
  by_cases hb : b = []
  · rcases h.kp with h1 | ⟨q, c, e, h1, h2, _⟩
    · exact .inl h1
    · exact .inr ⟨q, c, e, h1, h2, fun j z hz => by rw [hb] at hz; cases hz⟩
  · refine h.kp.kept fun q hq _ => Below.heap_setCell _ _ _ _ ?_
    have := h.kn hb q hq
    show q ≠ g
    omega

section
variable (hc : BatchOk) (a : Option Addr) (n c : Nat) (b : List UInt8) (w : World)
include hc

set_option maxRecDepth 100000 in
set_option maxHeartbeats 8000000 in
theorem batchCut_any (h : Bytes w (.slice a n c) b) : Calls Try.prog 8 #[.slice a n c] w fun e w' => e = .returned (.bool true) ∧ Below w.heap.size w w' := by
  have HC := hide hc
  clear hc
  by_cases hl : n > 30000
  · have g0 : (n : Int) > 30000 := by omega
    clear h
    go_enter Try.func8, Try.ntmps8
    go_wp2_with fail
    refine (awake_any (unhide HC) _).mono ?_
    rintro e w2 ⟨rfl, hb⟩
    have HB := hide hb
    clear hb
    go_wp2_with fail
    go_ret
    exact ⟨rfl, unhide HB⟩
  · have g0 : ¬ (n : Int) > 30000 := by omega
    have HBL := hide (bytes_len h).1
    have HH := hide h
    have HN : Hid (n ≤ 1048576) := by show _ ≤ _; omega
    clear h
    go_enter Try.func8, Try.ntmps8
    go_wp2_with fail
    refine ((unhide HC).cut a n c b _ (unhide HH) (unhide HN)).mono ?_
    rintro e w1 ⟨v1, rows, rfl, hC, hM, hb1⟩
    have HCU := hide hC
    have HLS := hide (mine_loose hM)
    have HR1 : Hid (RowsAt w1 v1 rows) := hM.imp fun v x h => h.1
    have HB1 := hide hb1
    have hcount := hC.count
    have hok := hC.ok (by rw [unhide HBL]; omega)
    have HTT : Hid (total rows ≤ 1048576) := by show _ ≤ _; rw [total_flatten, hC.flat, unhide HBL]; omega
    have HFL := hide hC.flat
    clear hC hM hb1
    obtain ⟨la, lc, el, _⟩ := (unhide HR1).form
    obtain ⟨R, hR⟩ : ∃ R, R = rows.length := ⟨_, rfl⟩
    rw [← hR] at el hcount hok
    subst el
    have HRL := hide hR
    have HEA := hide hcount.2
    have HOK := hide hok.1
    have hR8 := hok.2
    have hR1 : 1 ≤ R := by have := hok.1.1; omega
    rw [unhide HBL] at hcount
    obtain ⟨Qn, hQn⟩ : ∃ Qn : Int, Qn = ((n : Int) + 4096 - 1) / 4096 := ⟨_, rfl⟩
    have hmx : ((R : Nat) : Int) = max 1 Qn := by rw [hQn]; exact hcount.1
    have hq1 : ((n : Int) + 4096 - 1) / 4096 = Qn := hQn.symm
    have hq2 : ((n : Int) + 4095) / 4096 = Qn := by rw [hQn]; congr 1; omega
    clear hcount hok hR hQn
    go_wp2_with fail
    refine ((unhide HC).glue _ rows _ (unhide HR1) (unhide HTT) (by have := (unhide HOK).1.2; omega)).mono ?_
    rintro e w2 ⟨v2, rfl, hG, hb2⟩
    rw [unhide HFL] at hG
    have HB2 : Hid (Below w1.heap.size w1 w2) := hb2
    have HG := hide hG
    have HBw2 : Hid (Below w.heap.size w w2) := (unhide HB1).trans (hb2.mono (unhide HB1).size)
    clear hG hb2
    obtain ⟨ga, gc, eg, _⟩ := (unhide HG).form
    rw [unhide HBL] at eg
    subst eg
    go_wp2_with fail
    refine (low_same _ _ b b _ (unhide HG) ((unhide HH).later (unhide HBw2))).mono ?_
    rintro e w' ⟨rfl, hw'⟩
    rw [hw', show decide (b = b) = true from decide_eq_true rfl]
    clear hw' HG w'
    have hmx' : (if 1 < Qn then Qn else 1) = ((R : Nat) : Int) := by rw [hmx]; split <;> omega
    clear hmx
    have HR2 := hide ((unhide HR1).later (unhide HB2))
    go_wp2_with fail
    clear hmx'
    go_loopw [39] (fun i W => ∃ j : Nat, j ≤ R ∧ i = .int .i64 j ∧ W = w2) (fun i _ => R - (intOf i).toNat)
    case atStart => exact ⟨0, Nat.zero_le _, rfl, rfl⟩
    case round =>
      obtain ⟨j, hj, rfl, rfl⟩ := hrel
      by_cases hlt : j < R
      · obtain ⟨x, hx⟩ := some_get (xs := rows) (j := j) (by have := unhide HRL; omega)
        obtain ⟨b1, o1, u1, e1, x1, x3⟩ := (unhide HR2).at hx
        obtain ⟨d1, k1, ed1, _⟩ := x3.form
        have hxl := unhide HEA j x hx
        obtain ⟨nx, hnx⟩ : ∃ nx, nx = x.length := ⟨_, rfl⟩
        rw [← hnx] at ed1 hxl
        subst ed1
        cases e1
        have i1 : (j : Int) < (R : Int) := by omega
        clear x3 hx hnx
        have k1 : ¬ (nx : Int) > 4096 := by omega
        by_cases hlast : j + 1 < R
        · have k2 : (j : Int) < (R : Int) - 1 := by omega
          have k3 : nx = 4096 := hxl.2 hlast
          subst k3
          go_wp2_with fail
          exact ⟨⟨j + 1, by omega, by go_num, by trivial⟩, by simp [intOf]; omega⟩
        · have k2 : ¬ (j : Int) < (R : Int) - 1 := by omega
          go_wp2_with fail
          exact ⟨⟨j + 1, by omega, by go_num, by trivial⟩, by simp [intOf]; omega⟩
      · have ej : R = j := by omega
        subst ej
        have HMX : Hid (∀ r ∈ rows, rows.length ≤ 1024 → r.length ≤ 1048576) := fun r hr _ => by have := (unhide HOK).2 r hr; omega
        have HE : Hid (bputErr rows = 0) := bputErr_zero.2 (unhide HOK)
        have HOF : Hid (bputOf rows = bput rows) := if_pos (unhide HE)
        have HPL : Hid ((bput rows).length ≤ 1048576) := by show _ ≤ _; rw [bput_len, ← unhide HRL]; have h1 := unhide HFL; rw [total_flatten, h1, unhide HBL]; omega
        have HSC : Hid (ScanIs (bput rows) [rows] (bput rows).length 0) := by
          have h2 := scan_behind (l := [rows]) (fun r hr => by rw [List.mem_singleton.1 hr]; exact unhide HOK) scan_nil
          rw [bputs_one, List.append_nil, Nat.add_zero] at h2
          exact h2
        go_wp2_with fail
        refine ((unhide HC).put _ rows _ (unhide HR2) (unhide HMX)).mono ?_
        rintro e w3 ⟨v3, rfl, hB3, hb3, _⟩
        rw [unhide HE]
        rw [unhide HOF] at hB3
        have HB3 : Hid (Below w1.heap.size w1 w3) := (unhide HB2).trans (hb3.mono (unhide HB2).size)
        have HV3 := hide hB3
        clear hB3 hb3 HB2 HR2 HBw2
        obtain ⟨a3, c3, e3, _⟩ := (unhide HV3).form
        obtain ⟨L3, hL3⟩ : ∃ L3, L3 = (bput rows).length := ⟨_, rfl⟩
        rw [← hL3] at e3 HPL HSC
        subst e3
        clear hL3
        go_wp2_with fail
        refine ((unhide HC).scan a3 L3 c3 _ _ (unhide HV3) (unhide HPL)).mono ?_
        rintro e w4 ⟨v4, bs4, m4, x4, rfl, hS4, hA4, hb4⟩
        obtain ⟨rfl, rfl, rfl⟩ := (unhide HSC).same hS4
        have HB4 : Hid (Below w1.heap.size w1 w4) := (unhide HB3).trans (hb4.mono (unhide HB3).size)
        obtain ⟨a4, c4, e4, _⟩ := hA4.form
        have e4' : v4 = .slice a4 1 c4 := e4
        subst e4'
        obtain ⟨g4, o4, u4, ea4, hc4, hR4⟩ := hA4.at (i := 0) (x := rows) rfl
        subst ea4
        rw [Nat.add_zero] at hc4
        have HR4 := hide hR4
        obtain ⟨ra4, rc4, er4, _⟩ := hR4.form
        rw [← unhide HRL] at er4
        subst er4
        clear hS4 hA4 hb4 e4 HSC HB3 HV3 hR4
        go_wp2_with fail
        refine ((unhide HC).glue _ rows _ (unhide HR4) (unhide HTT) (by have := (unhide HOK).1.2; omega)).mono ?_
        rintro e w5 ⟨v5, rfl, hG5, hb5⟩
        rw [unhide HFL] at hG5
        have HB5 : Hid (Below w1.heap.size w1 w5) := (unhide HB4).trans (hb5.mono (unhide HB4).size)
        have HBw5 : Hid (Below w.heap.size w w5) := (unhide HB1).trans ((unhide HB5).mono (unhide HB1).size)
        have HG5 := hide hG5
        clear hG5 hb5 HB4 HR4 hc4
        go_wp2_with fail
        refine (low_same _ _ b b _ (unhide HG5) ((unhide HH).later (unhide HBw5))).mono ?_
        rintro e w' ⟨rfl, hw'⟩
        rw [hw', show decide (b = b) = true from decide_eq_true rfl]
        clear hw' HG5 w'
        go_wp2_with fail
        refine (low_anew _ b _ ((unhide HH).later (unhide HBw5)) (by rw [unhide HBL]; exact unhide HN)).mono ?_
        rintro e w6 ⟨v6, rfl, hF6⟩
        have HCL : Hid (CutLoop w w1.heap.size (.slice la R lc) (rows.map List.length) v6 b w6) := by
          refine ⟨?_, hF6.1.1, fun _ q hq => by have h1 := (hF6.1.2.1 q hq).1; have h2 := (unhide HB5).size; omega, (unhide HBw5).trans (hF6.1.2.2.mono (unhide HBw5).size)⟩
          have hE : ∀ {w' w'' : World} {v : Value} {x : Nat}, Loose w.heap.size w1.heap.size w' v x → Below w'.heap.size w' w'' → Loose w.heap.size w1.heap.size w'' v x := fun h hb => h.later hb
          exact ListAt.later (E := Loose w.heap.size w1.heap.size) hE (ListAt.later (E := Loose w.heap.size w1.heap.size) hE (unhide HLS) (unhide HB5)) hF6.1.2.2
        clear hF6 HB5 HBw5 HLS HR1
        go_wp2_with fail
        go_loopw [101] (fun i W => ∃ j : Nat, j ≤ R ∧ i = .int .i64 j ∧ CutLoop w w1.heap.size (.slice la R lc) (rows.map List.length) v6 b W) (fun i _ => R - (intOf i).toNat)
        case atStart => exact ⟨0, Nat.zero_le _, rfl, unhide HCL⟩
        case round =>
          obtain ⟨j, hj, rfl, hL⟩ := hrel
          have HL := hide hL
          clear hL
          by_cases hlt : j < R
          · obtain ⟨nx, hx⟩ := some_get (xs := rows.map List.length) (j := j) (by rw [List.length_map]; have := unhide HRL; omega)
            obtain ⟨b1, o1, u1, e1, x1, x3⟩ := (unhide HL).ls.at hx
            obtain ⟨d1, k1, ed1⟩ := x3.form
            subst ed1
            cases e1
            have i1 : (j : Int) < (R : Int) := by omega
            have hnx : nx ≤ 4096 := by
              rw [List.getElem?_map] at hx
              cases hr : rows[j]? with
              | none => rw [hr] at hx; cases hx
              | some r => rw [hr] at hx; cases hx; exact (unhide HEA j r hr).1
            have X3 := hide x3
            clear x3 hx
            go_wp2_with fail
            go_loopw [107] (fun i W => ∃ q : Nat, q ≤ nx ∧ i = .int .i64 q ∧ Loose w.heap.size w1.heap.size W (.slice d1 nx k1) nx ∧ CutLoop w w1.heap.size (.slice (some ⟨b1, o1, none⟩) R lc) (rows.map List.length) v6 b W) (fun i _ => nx - (intOf i).toNat)
            case atStart => exact ⟨0, Nat.zero_le _, rfl, unhide X3, unhide HL⟩
            case round =>
              obtain ⟨q, hq, rfl, hLo, hL2⟩ := hrel
              by_cases hlq : q < nx
              · obtain ⟨g, o, y, e2, hy, hcell, hfr, hg1, hg2⟩ := hLo.at hlq
                subst e2
                have i2 : (q : Int) < (nx : Int) := by omega
                have i3 : (0 : Int) ≤ (q : Int) := by omega
                obtain ⟨z, hz⟩ : ∃ z, z = (y + 1) % 256 := ⟨_, rfl⟩
                have hz1 : ((y : Int) + 1) % 256 = ((z : Nat) : Int) := by rw [hz]; push_cast; rfl
                have hzl : z < 256 := by omega
                have HS1 := hide (hLo.set ⟨g, o + q, none⟩ z hzl (by rw [hcell]; rfl))
                have HS2 := hide (hL2.set hzl hcell hg1 hg2)
                clear hLo hL2 hz
                go_wp2_with fail
                exact ⟨⟨q + 1, by omega, by go_num, unhide HS1, unhide HS2⟩, by simp [intOf]; omega⟩
              · have eq : nx = q := by omega
                subst eq
                have HL2 := hide hL2
                clear hLo hL2
                go_wp2_with fail
                exact ⟨⟨j + 1, by omega, by go_num, unhide HL2⟩, by simp [intOf]; omega⟩
          · have HKP := hide (unhide HL).kp
            have HBB := hide (unhide HL).bb
            clear HL
            go_wp2_with fail
            refine (low_same _ _ b b _ (unhide HKP) ((unhide HH).later (unhide HBB))).mono ?_
            rintro e w' ⟨rfl, hw'⟩
            rw [hw', show decide (b = b) = true from decide_eq_true rfl]
            clear hw' HKP w'
            go_wp2_with fail
            refine (awake_any (unhide HC) _).mono ?_
            rintro e w9 ⟨rfl, hb9⟩
            have HB9 : Hid (Below w.heap.size w w9) := (unhide HBB).trans (hb9.mono (unhide HBB).size)
            clear hb9 HBB
            go_wp2_with fail
            go_ret
            exact ⟨rfl, unhide HB9⟩
end
end Go.Proofs.Ytbbglgfgelnncaa
