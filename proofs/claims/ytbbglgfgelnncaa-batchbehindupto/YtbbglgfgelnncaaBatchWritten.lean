/- The statements' own helper written, over BatchOk. No statement of the seat is proved here. -/
import Derived.Test.YtbbglgfgelnncaaBatchAwake
import Derived.Test.YtbbglgfgelnncaaGenTwo
namespace Go.Proofs.Ytbbglgfgelnncaa
open Go.RowKit

/-- Where each of the batches ends. -/
def bends (l : List (List (List UInt8))) : List Nat := (List.range l.length).map fun j => blen l (j + 1)
theorem bends_len (l : List (List (List UInt8))) : (bends l).length = l.length := by simp [bends]
theorem take_get {l : List (List (List UInt8))} {j : Nat} {x : List (List UInt8)} (hx : l[j]? = some x) : l.take (j + 1) = l.take j ++ [x] := by
  obtain ⟨hj, rfl⟩ := List.getElem?_eq_some_iff.1 hx
  rw [List.take_succ_eq_append_getElem hj]
theorem blen_take {l : List (List (List UInt8))} {i j : Nat} (h : i ≤ j) : blen (l.take j) i = blen l i := by
  unfold blen
  rw [List.take_take, Nat.min_eq_left h]
theorem bends_succ {l : List (List (List UInt8))} {j : Nat} {x : List (List UInt8)} (hx : l[j]? = some x) : bends (l.take (j + 1)) = bends (l.take j) ++ [(bputs (l.take (j + 1))).length] := by
  have hj := (List.getElem?_eq_some_iff.1 hx).1
  have e1 : (l.take (j + 1)).length = j + 1 := by rw [List.length_take]; omega
  have e2 : (l.take j).length = j := by rw [List.length_take]; omega
  unfold bends
  rw [e1, e2, List.range_succ, List.map_append]
  congr 1
  · apply List.map_congr_left
    intro i hi
    have : i < j := by simpa using hi
    rw [blen_take (by omega), blen_take (by omega)]
  · show [blen (l.take (j + 1)) (j + 1)] = _
    rw [blen_take (Nat.le_refl _)]
    rfl
theorem bends_get {l : List (List (List UInt8))} {j : Nat} (hj : j < l.length) : (bends l)[j]? = some (blen l (j + 1)) := by
  unfold bends
  rw [List.getElem?_map, List.getElem?_range hj]
  rfl
theorem bput_most {rows : List (List UInt8)} (h : okRows rows) : (bput rows).length ≤ 4300000 := by
  unfold bput recsOf
  rw [puts_snoc, List.length_append, put_len]
  have h1 : (puts (rows.map dat)).length ≤ 4105 * rows.length := dats_len h.2
  have h2 := h.1.2
  show _ + (9 + 2) ≤ _
  omega
theorem bputs_most {l : List (List (List UInt8))} (h : ∀ rows ∈ l, okRows rows) : (bputs l).length ≤ 4300000 * l.length := by
  induction l with
  | nil => simp [bputs_nil]
  | cons rows l ih =>
    have e : bputs (rows :: l) = bput rows ++ bputs l := by
      have : rows :: l = [rows] ++ l := rfl
      rw [this, bputs_append, bputs_one]
    have h1 := bput_most (h rows (List.mem_cons_self ..))
    have h2 := ih fun r hr => h r (List.mem_cons_of_mem _ hr)
    rw [e, List.length_append, List.length_cons]
    omega

/-- What written answers. -/
def BWroteAt (w : World) (l : List (List (List UInt8))) (e : Ending) (w' : World) : Prop :=
  ((∀ rows ∈ l, okRows rows) ∧ ∃ v1 v2, e = .returned (.tuple #[v1, v2, .bool true]) ∧ Two w v1 (bputs l) v2 (bends l) w') ∨
  ((∃ rows ∈ l, ¬ okRows rows) ∧ e = .returned (.tuple #[.slice none 0 0, .slice none 0 0, .bool false]) ∧ Below w.heap.size w w')

set_option maxRecDepth 100000 in
set_option maxHeartbeats 8000000 in
theorem bwritten_any (hc : BatchOk) (u : Value) (l : List (List (List UInt8))) (w : World) (h : BatchesAt w u l) (hl : l.length ≤ 1048576) (hd : ∀ rows ∈ l, ∀ r ∈ rows, rows.length ≤ 1024 → r.length ≤ 1048576) :
    Calls Try.prog 22 #[u] w fun e w' => BWroteAt w l e w' := by
  obtain ⟨ua, uc, rfl, _⟩ := h.form
  obtain ⟨n, hn⟩ : ∃ n, n = l.length := ⟨_, rfl⟩
  rw [← hn] at h hl ⊢
  obtain ⟨ti, hti, hz0, hz1, hz2⟩ := infoByte
  have HC := hide hc
  have HH := hide h
  have HN := hide hn
  have HD := hide hd
  clear hc h hn hd
  go_enter Try.func22, Try.ntmps22
  go_wp2_with fail
  go_loopw [5, 6, 13] (fun v1 v2 i W => ∃ j : Nat, j ≤ n ∧ i = .int .i64 j ∧ (∀ rows ∈ l.take j, okRows rows) ∧ Two w v1 (bputs (l.take j)) v2 (bends (l.take j)) W) (fun _ _ i _ => n - (intOf i).toNat)
  case atStart => exact ⟨0, Nat.zero_le _, rfl, fun r hr => (by simp at hr), Two.start w⟩
  case round =>
    obtain ⟨j, hj, rfl, hrt, hT⟩ := hrel
    have HRT := hide hrt
    have HT := hide hT
    clear hrt hT
    by_cases hlt : j < n
    · obtain ⟨x, hx⟩ := some_get (xs := l) (j := j) (by have := unhide HN; omega)
      obtain ⟨b1, o1, v1, e1, x1, x3⟩ := ((unhide HH).later (unhide HT).o1.bb).at hx
      subst e1
      obtain ⟨d1, k1, ed1, _⟩ := x3.form
      obtain ⟨nx, hnx⟩ : ∃ nx, nx = x.length := ⟨_, rfl⟩
      rw [← hnx] at ed1
      subst ed1
      have i1 : (j : Int) < (n : Int) := by omega
      have X3 := hide x3
      have HX := hide hx
      have HSN := hide (take_get hx)
      have HES := hide (bends_succ hx)
      have HDX := hide (unhide HD x (List.mem_of_getElem? hx))
      clear x3 hx hnx
      go_wp2_with fail
      refine ((unhide HC).put _ x _ (unhide X3) (unhide HDX)).mono ?_
      rintro e w2 ⟨v2, rfl, hB, hb, _⟩
      have HT2 := hide ((unhide HT).later hb)
      have HB := hide hB
      clear hB hb HT X3
      by_cases h0 : bputErr x = 0
      · have HOK := hide (bputErr_zero.1 h0)
        have HPO : Hid (bputOf x = bput x) := if_pos h0
        rw [h0]
        have HRT2 : Hid (∀ rows ∈ l.take (j + 1), okRows rows) := fun rows hr => by
          rw [unhide HSN, List.mem_append, List.mem_singleton] at hr
          rcases hr with hr | rfl
          · exact unhide HRT rows hr
          · exact unhide HOK
        have HLEN : Hid ((bputs (l.take j)).length + (bputOf x).length ≤ 140737488355328) := by
          have h1 := bputs_most (unhide HRT2)
          rw [unhide HSN, bputs_snoc, List.length_append, List.length_append, List.length_singleton] at h1
          have h2 : (l.take j).length ≤ j := by rw [List.length_take]; omega
          rw [unhide HPO]
          show _ ≤ _
          omega
        go_wp2_with (at_builtin; refine wpList_append_bytes _ rfl _ _ 23 rfl 5 ti (.int .u8 0) Try.underlying23 hti hz0 hz1 hz2 rfl _ _ rfl (unhide HT2).o1.own _ _ rfl (unhide HB) (unhide HLEN) ?_)
        rintro v8 w8 r1 r2 r3
        have HT4 : Hid (Two w v8 (bputs (l.take (j + 1))) u6 (bends (l.take j)) w8) := by
          have h := (unhide HT2).grown1 (cs := bputs (l.take j) ++ bputOf x) (by simpa using r1) r2 r3
          rw [unhide HPO, ← bputs_snoc, ← unhide HSN] at h
          exact h
        clear r1 r2 r3 HT2 HB
        obtain ⟨a8, c8, e8, _⟩ := (bytes_of_owns (unhide HT4).o1.own).form
        subst e8
        have HT5 := hide ((unhide HT4).later ((Below.refl _ w8).alloc (Nat.le_refl _) (.cells #[.int .i64 (((bputs (l.take (j + 1))).length : Nat) : Int)] 3)))
        clear HT4
        go_wp2_with (at_builtin; refine wpList_append_int rfl _ _ rfl _ _ _ _ (bputs (l.take (j + 1))).length w8.heap.size 1 rfl (unhide HT5) rfl (by simp; rfl) (by rw [bends_len]; have := List.length_take_le j l; omega) ?_)
        rintro v9 w9 hT6
        rw [← unhide HES] at hT6
        have HT6 := hide hT6
        clear hT6 HT5
        go_wp2_with fail
        exact ⟨⟨j + 1, by omega, by go_num, unhide HRT2, unhide HT6⟩, by simp [intOf]; omega⟩
      · have HE : Hid (∃ rows ∈ l, ¬ okRows rows) := ⟨x, List.mem_of_getElem? (unhide HX), fun h => h0 (bputErr_zero.2 h)⟩
        generalize bputErr x = ee at *
        have g1 : (ee != 0) = true := bne_iff_ne.2 h0
        have g2 : (ee == 0) = false := beq_eq_false_iff_ne.2 h0
        clear h0
        go_wp2_with fail
        go_ret3
        exact .inr ⟨unhide HE, rfl, (unhide HT2).o1.bb⟩
    · have ej : j = n := by omega
      subst ej
      have HTK : Hid (l.take j = l) := List.take_of_length_le (by rw [unhide HN]; exact Nat.le_refl _)
      rw [unhide HTK] at HRT HT
      go_wp2_with fail
      go_ret3
      exact .inl ⟨unhide HRT, _, _, rfl, unhide HT⟩
end Go.Proofs.Ytbbglgfgelnncaa
