/- The document's records (foremanref03): Put. No statement of the seat is proved here. -/
import Derived.Test.YtbbglgfgelnncaaRecRef
namespace Go.Proofs.Ytbbglgfgelnncaa
open Go.RowKit

/-- What Put answers: the bytes. -/
def putOf (r : RecD) : List UInt8 := if putErr r = 0 then r.put else []

set_option maxRecDepth 100000 in
set_option maxHeartbeats 4000000 in
theorem refPut_any (r : RecD) (a : Option Addr) (n c : Nat) (w : World) (h : Bytes w (.slice a n c) r.d) (hl : n ≤ 1048576) : Calls Try.prog 28 #[.agg #[.int .u8 (r.k.toNat : Nat), .slice a n c]] w fun e w' => ∃ v, e = .returned (.tuple #[v, .int .i64 (putErr r)]) ∧ FreshO w w' v (putOf r) := by
  obtain ⟨hn, hnc⟩ := bytes_len h
  have hk := r.k.toNat_lt
  by_cases h1 : r.k.toNat < 1
  · have e1 : putErr r = 30 := by unfold putErr; rw [if_pos (.inl h1)]
    have e2 : putOf r = [] := by unfold putOf; rw [e1]; rfl
    rw [e1, e2]
    have g1 : ((r.k.toNat : Nat) : Int) < 1 := by omega
    clear h h1 e1 e2 hk
    go_enter Try.func28, Try.ntmps28
    go_wp2_with fail
    go_ret2
    exact ⟨_, rfl, ⟨⟨.inl ⟨rfl, rfl⟩, fun k hk => (by cases hk), (Below.refl _ w).alloc (Nat.le_refl _) _⟩, own_none _⟩⟩
  by_cases h2 : 2 < r.k.toNat
  · have e1 : putErr r = 30 := by unfold putErr; rw [if_pos (.inr h2)]
    have e2 : putOf r = [] := by unfold putOf; rw [e1]; rfl
    rw [e1, e2]
    have g1 : ¬ ((r.k.toNat : Nat) : Int) < 1 := by omega
    have g2 : ((r.k.toNat : Nat) : Int) > 2 := by omega
    clear h h1 h2 e1 e2 hk
    go_enter Try.func28, Try.ntmps28
    go_wp2_with fail
    go_ret2
    exact ⟨_, rfl, ⟨⟨.inl ⟨rfl, rfl⟩, fun k hk => (by cases hk), (Below.refl _ w).alloc (Nat.le_refl _) _⟩, own_none _⟩⟩
  have g1 : ¬ ((r.k.toNat : Nat) : Int) < 1 := by omega
  have g2 : ¬ ((r.k.toNat : Nat) : Int) > 2 := by omega
  by_cases h3 : 4096 < n
  · have e1 : putErr r = 31 := by unfold putErr; rw [if_neg (by omega), if_pos (by omega)]
    have e2 : putOf r = [] := by unfold putOf; rw [e1]; rfl
    rw [e1, e2]
    have g3 : (n : Int) > 4096 := by omega
    clear h h1 h2 h3 e1 e2 hk
    go_enter Try.func28, Try.ntmps28
    go_wp2_with fail
    go_ret2
    exact ⟨_, rfl, ⟨⟨.inl ⟨rfl, rfl⟩, fun k hk => (by cases hk), (Below.refl _ w).alloc (Nat.le_refl _) _⟩, own_none _⟩⟩
  have e1 : putErr r = 0 := by unfold putErr; rw [if_neg (by omega), if_neg (by omega)]
  have e2 : putOf r = r.put := by unfold putOf; rw [if_pos e1]
  rw [e1, e2]
  have g3 : ¬ (n : Int) > 4096 := by omega
  have HN := hide hn
  have HH := hide h
  have HR : Hid (r.rest = [r.k] ++ four n ++ r.d) := by show r.rest = _; rw [← hn]; rfl
  obtain ⟨ti, hti, hz0, hz1, hz2⟩ := infoByte
  clear h h1 h2 h3 e1 e2 hn
  go_enter Try.func28, Try.ntmps28
  go_upto_region 6 with fail
  have hb1 : Below w.heap.size w (w.alloc (.cells #[.int .u8 (r.k.toNat : Nat), .slice a n c] 49)) := (Below.refl _ w).alloc (Nat.le_refl _) _
  have hx1 : (w.alloc (.cells #[.int .u8 (r.k.toNat : Nat), .slice a n c] 49)).heap[w.heap.size]? = some (.cells #[.int .u8 (r.k.toNat : Nat), .slice a n c] 49 (0, 0)) := heap_alloc_new w _
  obtain ⟨g, hg⟩ : ∃ g, g = w.heap.size := ⟨_, rfl⟩
  rw [← hg] at hx1 ⊢
  generalize w.alloc _ = w1 at *
  have HX1 := hide hx1
  have HB1 := hide hb1
  have hgl : g < w1.heap.size := (Array.getElem?_eq_some_iff.1 hx1).1
  have y0 : w1.cell? ⟨g, 0, none⟩ = some (.int .u8 (r.k.toNat : Nat)) := cell_of_row _ _ 0 _ _ _ hx1
  clear hx1 hb1 hg
  have HO := hide ((Own.start w1).alloc (.cells #[.int .u8 (r.k.toNat : Nat)] 5))
  have HU := hide (bytes_one w1 r.k)
  go_wp2_with (at_builtin; refine wpList_append_bytes _ rfl _ _ 23 rfl 5 ti (.int .u8 0) Try.underlying23 hti hz0 hz1 hz2 rfl _ [] rfl (unhide HO).own _ [r.k] rfl (unhide HU) (by simp) ?_)
  rintro v2 w2 r1 r2 r3
  have HO2 : Hid (Own w1 v2 [r.k] w2) := (unhide HO).grown (by simpa using r1) r2 (by simpa using r3)
  clear r1 r2 r3 HO HU y0
  have hx2 : w2.heap[g]? = _ := ((unhide HO2).bb.block g hgl).trans (unhide HX1)
  have y1 : w2.cell? ⟨g, 1, none⟩ = some (.slice a n c) := cell_of_row _ _ 1 _ _ _ hx2
  clear hx2
  go_wp2_with fail
  refine (refFour_any n (by omega) _).mono ?_
  rintro e w3 ⟨v3, rfl, hF3⟩
  have HO3 := hide ((unhide HO2).later hF3.1.2.2)
  have HU3 := hide hF3.1.1
  clear hF3 HO2 y1
  go_wp2_with (at_builtin; refine wpList_append_bytes _ rfl _ _ 23 rfl 5 ti (.int .u8 0) Try.underlying23 hti hz0 hz1 hz2 rfl _ [r.k] rfl (unhide HO3).own _ (four n) rfl (unhide HU3) (by rw [four_len]; simp) ?_)
  rintro v4 w4 r1 r2 r3
  have HO4 : Hid (Own w1 v4 ([r.k] ++ four n) w4) := (unhide HO3).grown (by simpa using r1) r2 (by simpa using r3)
  clear r1 r2 r3 HO3 HU3
  have hx4 : w4.heap[g]? = _ := ((unhide HO4).bb.block g hgl).trans (unhide HX1)
  have y1 : w4.cell? ⟨g, 1, none⟩ = some (.slice a n c) := cell_of_row _ _ 1 _ _ _ hx4
  clear hx4
  have HU4 : Hid (Bytes w4 (.slice a n c) r.d) := ((unhide HH).kept fun k _ hk => (unhide HB1).block k hk).kept fun k _ hk => (unhide HO4).bb.block k hk
  go_wp2_with (at_builtin; refine wpList_append_bytes _ rfl _ _ 23 rfl 5 ti (.int .u8 0) Try.underlying23 hti hz0 hz1 hz2 rfl _ ([r.k] ++ four n) rfl (unhide HO4).own _ r.d rfl (unhide HU4) (by rw [List.length_append, four_len, unhide HN]; simp; omega) ?_)
  rintro v5 w5 r1 r2 r3
  have HO5 : Hid (Own w1 v5 r.rest w5) := (unhide HO4).grown (by rw [unhide HR]; simpa [List.append_assoc, Nat.add_assoc] using r1) r2 (by simpa using r3)
  clear r1 r2 r3 HO4 HU4 y1
  go_wp2_with fail
  refine (refSum_any v5 r.rest _ (bytes_of_owns (unhide HO5).own) (by rw [rest_len, unhide HN]; omega)).mono ?_
  rintro e w' ⟨rfl, rfl⟩
  have HSL := hide (sum_lt r.rest)
  have HPUT : Hid (r.put = four (sumB r.rest) ++ r.rest) := rfl
  have hsl := sum_lt r.rest
  obtain ⟨S, hS⟩ : ∃ S, S = sumB r.rest := ⟨_, rfl⟩
  rw [← hS] at HSL HPUT hsl ⊢
  clear hS
  go_wp2_with fail
  refine (refFour_any S (unhide HSL) _).mono ?_
  rintro e w6 ⟨v6, rfl, hF6⟩
  have HO6 : Hid (Own w1 v6 (four S) w6) := hF6.own (unhide HO5).bb
  have HU6 := hide ((unhide HO5).later hF6.1.2.2 |>.own |> bytes_of_owns)
  clear hF6 HO5
  go_wp2_with (at_builtin; refine wpList_append_bytes _ rfl _ _ 23 rfl 5 ti (.int .u8 0) Try.underlying23 hti hz0 hz1 hz2 rfl _ (four S) rfl (unhide HO6).own _ r.rest rfl (unhide HU6) (by rw [four_len, rest_len, unhide HN]; omega) ?_)
  rintro v7 w7 r1 r2 r3
  have HO7 : Hid (Own w1 v7 r.put w7) := (unhide HO6).grown (by rw [unhide HPUT]; simpa using r1) r2 (by simpa using r3)
  clear r1 r2 r3 HO6 HU6
  go_wp2_with fail
  go_ret2
  exact ⟨v7, rfl, ((unhide HO7).lift (unhide HB1)).fresh⟩
end Go.Proofs.Ytbbglgfgelnncaa
