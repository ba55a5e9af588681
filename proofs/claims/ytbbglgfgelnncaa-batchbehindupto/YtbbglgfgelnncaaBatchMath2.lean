/- Batches one behind the other, cut anywhere; a commit that tells another number; rows cut and glued. Our own definitions; no statement of the seat is proved here. -/
import Derived.Test.YtbbglgfgelnncaaBatchMath
namespace Go.Proofs.Ytbbglgfgelnncaa

theorem split_mono (p : Nat → Nat) (n k : Nat) (h0 : p 0 ≤ k) (hm : ∀ i j, i ≤ j → j ≤ n → p i ≤ p j) : ∃ t, t ≤ n ∧ (∀ j, j ≤ t → p j ≤ k) ∧ (∀ j, t < j → j ≤ n → k < p j) := by
  suffices h : ∀ m, m ≤ n → ∃ t, t ≤ m ∧ (∀ j, j ≤ t → p j ≤ k) ∧ (∀ j, t < j → j ≤ m → k < p j) from h _ (Nat.le_refl _)
  intro m
  induction m with
  | zero =>
    intro _
    refine ⟨0, Nat.le_refl _, fun j hj => ?_, fun j h1 h2 => by omega⟩
    have e : j = 0 := by omega
    rw [e]
    exact h0
  | succ m ih =>
    intro hmn
    obtain ⟨t, ht, h1, h2⟩ := ih (by omega)
    by_cases hk : p (m + 1) ≤ k
    · exact ⟨m + 1, Nat.le_refl _, fun j hj => Nat.le_trans (hm j (m + 1) hj hmn) hk, fun j h3 h4 => by omega⟩
    · refine ⟨t, by omega, h1, fun j h3 h4 => ?_⟩
      by_cases e : j = m + 1
      · rw [e]; omega
      · exact h2 j h3 (by omega)

/-- How many bytes the first j batches have. -/
def blen (l : List (List (List UInt8))) (j : Nat) : Nat := (bputs (l.take j)).length
theorem blen_zero (l : List (List (List UInt8))) : blen l 0 = 0 := by simp [blen, bputs, recsAll, puts]
theorem blen_all (l : List (List (List UInt8))) : blen l l.length = (bputs l).length := by unfold blen; rw [List.take_length]
theorem blen_succ (l : List (List (List UInt8))) {j : Nat} {rows : List (List UInt8)} (hx : l[j]? = some rows) : blen l (j + 1) = blen l j + (bput rows).length := by
  obtain ⟨hj, rfl⟩ := List.getElem?_eq_some_iff.1 hx
  unfold blen
  rw [List.take_succ_eq_append_getElem hj, bputs_snoc, List.length_append]
theorem blen_mono (l : List (List (List UInt8))) (i j : Nat) (hij : i ≤ j) : blen l i ≤ blen l j := by
  have e : l.take j = l.take i ++ (l.take j).drop i := by
    have := List.take_append_drop i (l.take j)
    rw [List.take_take, Nat.min_eq_left hij] at this
    exact this.symm
  unfold blen
  rw [e, bputs_append, List.length_append]
  omega
theorem bput_pos (rows : List (List UInt8)) : 0 < (bput rows).length := by
  unfold bput recsOf
  rw [puts_snoc, List.length_append, put_len]
  omega

/-- A part of a batch is none. -/
theorem scan_part {rows : List (List UInt8)} (hr : okRows rows) {j : Nat} (h0 : 0 < j) (hj : j < (bput rows).length) : ScanIs ((bput rows).take j) [] 0 32 := by
  obtain ⟨ss, m, x, hA⟩ := AllIs.some ((bput rows).take j)
  obtain ⟨t, ht, h1, h2⟩ := split_at (recsOf rows) j
  have htl : t < (recsOf rows).length := by
    rcases Nat.lt_or_ge t (recsOf rows).length with h | h
    · exact h
    · have e : t = (recsOf rows).length := by omega
      have h3 := h1 t (Nat.le_refl _)
      rw [e, plen_all] at h3
      have h4 : (bput rows).length = (puts (recsOf rows)).length := rfl
      omega
  obtain ⟨e1, _, hx⟩ := cut_all (recsOf rows) (recsOf_right hr.2) (k := j) (t := t) (by exact Nat.le_of_lt hj) ht (h1 t (Nat.le_refl _)) (fun h => h2 (t + 1) (by omega) (by omega)) hA
  have hlen : (recsOf rows).length = rows.length + 1 := by simp [recsOf]
  have etk : (recsOf rows).take t = (rows.take t).map dat := by
    unfold recsOf
    rw [List.take_append_of_le_length (by rw [List.length_map]; omega), List.map_take]
  refine ⟨ss, m, x, hA, ?_⟩
  have hsc := scan_rows (finErr x) (rows.take t) [] [] [] 0 0 (by rw [List.length_nil, List.length_take]; have := hr.1; omega)
  rw [List.append_nil] at hsc
  rw [e1, etk, hsc, List.nil_append]
  show ([], 0, finErr x (rows.take t).length) = _
  have hfin : finErr x (rows.take t).length = 32 := by
    unfold finErr
    rcases hx with ⟨rfl, hp⟩ | ⟨rfl, _⟩
    · have ht0 : 0 < t := by
        rcases Nat.eq_zero_or_pos t with e | e
        · rw [e, plen_zero] at hp; omega
        · exact e
      rw [if_pos ⟨rfl, by rw [List.length_take]; omega⟩]
    · rw [if_neg (fun h => by have := h.1; cases this)]
  rw [hfin]

theorem scan_nil : ScanIs [] [] 0 0 := ⟨_, _, _, .none, rfl⟩

/-- P4.4: batches cut anywhere. -/
theorem scan_cut {l : List (List (List UInt8))} (hl : ∀ rows ∈ l, okRows rows) {k t : Nat} (hk : k ≤ (bputs l).length) (ht : t ≤ l.length) (h1 : blen l t ≤ k) (h2 : t < l.length → k < blen l (t + 1)) :
    ∃ x, ScanIs ((bputs l).take k) (l.take t) (blen l t) x ∧ ((x = 0 ∧ blen l t = k) ∨ (x = 32 ∧ ¬ blen l t = k)) := by
  have hlt : ∀ rows ∈ l.take t, okRows rows := fun rows h => hl rows (List.mem_of_mem_take h)
  have esp : bputs l = bputs (l.take t) ++ bputs (l.drop t) := by rw [← bputs_append, List.take_append_drop]
  have e : (bputs l).take k = bputs (l.take t) ++ (bputs (l.drop t)).take (k - blen l t) := by
    rw [esp, List.take_append]
    congr 1
    exact List.take_of_length_le h1
  rw [e]
  have hfin : ∀ x, ScanIs ((bputs (l.drop t)).take (k - blen l t)) [] 0 x → ScanIs (bputs (l.take t) ++ (bputs (l.drop t)).take (k - blen l t)) (l.take t) (blen l t) x := fun x hx => by
    have := scan_behind hlt hx
    rwa [List.append_nil, Nat.add_zero] at this
  by_cases htl : t < l.length
  · have hx : l[t]? = some l[t] := List.getElem?_eq_getElem htl
    have hk2 := h2 htl
    rw [blen_succ l hx] at hk2
    have hri := hl _ (List.mem_of_getElem? hx)
    have ed : l.drop t = l[t] :: l.drop (t + 1) := List.drop_eq_getElem_cons htl
    generalize l[t] = rows at *
    have er : (bputs (l.drop t)).take (k - blen l t) = (bput rows).take (k - blen l t) := by
      have : bputs (rows :: l.drop (t + 1)) = bput rows ++ bputs (l.drop (t + 1)) := by
        have h : rows :: l.drop (t + 1) = [rows] ++ l.drop (t + 1) := rfl
        rw [h, bputs_append, bputs_one]
      rw [ed, this, List.take_append_of_le_length (by omega)]
    rw [er] at hfin ⊢
    by_cases hz : k - blen l t = 0
    · refine ⟨0, hfin 0 ?_, .inl ⟨rfl, by omega⟩⟩
      rw [hz, List.take_zero]
      exact scan_nil
    · exact ⟨32, hfin 32 (scan_part hri (by omega) (by omega)), .inr ⟨rfl, by omega⟩⟩
  · have et : t = l.length := by omega
    refine ⟨0, hfin 0 ?_, .inl ⟨rfl, ?_⟩⟩
    · rw [et, List.drop_length, bputs_nil, List.take_nil]
      exact scan_nil
    · rw [et, blen_all] at h1 ⊢
      omega

/-- P4.2: a commit that tells another number. -/
theorem scan_mixed {rows : List (List UInt8)} (hr : okRows rows) {n : Nat} (hn : n < 65536) (hne : n ≠ rows.length) (more : List UInt8) : ScanIs (puts (rows.map dat) ++ (commit n).put ++ more) [] 0 34 := by
  have hrr : ∀ r ∈ rows.map dat ++ [commit n], r.right := by
    intro r h
    rcases List.mem_append.1 h with h | h
    · obtain ⟨d, hd, rfl⟩ := List.mem_map.1 h
      exact dat_right (hr.2 d hd)
    · rw [List.mem_singleton] at h
      rw [h]
      exact commit_right n
  have e : puts (rows.map dat) ++ (commit n).put = puts (rows.map dat ++ [commit n]) := (puts_snoc _ _).symm
  obtain ⟨ss, m, x, hA⟩ := AllIs.some (puts (rows.map dat) ++ (commit n).put ++ more)
  refine ⟨ss, m, x, hA, ?_⟩
  rw [e] at hA
  obtain ⟨ts, _, e1, _, _⟩ := AllIs.behind hrr hA
  rw [e1, List.append_assoc, scan_rows _ rows _ [] [] 0 0 (by rw [List.length_nil]; have := hr.1; omega), List.nil_append]
  show scanGo _ (commit n :: ts) [] rows _ 0 = _
  have hk : (commit n).k ≠ 1 := (by decide : (2 : UInt8) ≠ 1)
  have hle : le (commit n).d = n := le_two hn
  rw [scanGo, if_neg hk, if_pos (.inr (.inr (by rw [hle]; exact hne)))]
end Go.Proofs.Ytbbglgfgelnncaa
