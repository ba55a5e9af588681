/- RecPure, RecAll, RecRef5, GenCopy, RecImplA: our own definitions and contracts; no statement of the seat is proved here. -/
import Derived.Test.YtflfiobicapopaaBase04
import Derived.Test.YtflfiobicapopaaBase00
import Derived.Deep.RegionLaw
namespace Go.Proofs.Ytflfiobicapopaa

/-- What All answers: the records, how many bytes they take, the error or 0. -/
inductive AllIs : List UInt8 → List RecD → Nat → Int → Prop
  | none : AllIs [] [] 0 0
  | stop {b : List UInt8} (h : b ≠ []) (he : takeErr b ≠ 0) : AllIs b [] 0 (takeErr b)
  | more {b : List UInt8} {rs : List RecD} {n : Nat} {e : Int} (h : b ≠ []) (he : takeErr b = 0) (hr : AllIs (b.drop (takeLen b)) rs n e) : AllIs b (takeRec b :: rs) (takeLen b + n) e

theorem AllIs.same {b : List UInt8} {rs rs' : List RecD} {n n' : Nat} {e e' : Int} (h : AllIs b rs n e) (h' : AllIs b rs' n' e') : rs = rs' ∧ n = n' ∧ e = e' := by
  induction h generalizing rs' n' e' with
  | none =>
    cases h' with
    | none => exact ⟨rfl, rfl, rfl⟩
    | stop h _ => exact absurd rfl h
    | more h _ _ => exact absurd rfl h
  | stop h he =>
    cases h' with
    | none => exact absurd rfl h
    | stop _ _ => exact ⟨rfl, rfl, rfl⟩
    | more _ he' _ => exact absurd he' he
  | more h he _ ih =>
    cases h' with
    | none => exact absurd rfl h
    | stop _ he' => exact absurd he he'
    | more _ _ hr' =>
      obtain ⟨e1, e2, e3⟩ := ih hr'
      subst e1 e2 e3
      exact ⟨rfl, rfl, rfl⟩
theorem AllIs.few {b : List UInt8} {rs : List RecD} {n : Nat} {e : Int} (h : AllIs b rs n e) : rs.length ≤ b.length := by
  induction h with
  | none => exact Nat.le_refl _
  | stop h he => exact Nat.zero_le _
  | more h he hr ih =>
    have h1 := (put_take _ he).2.2.2.1
    have h2 := (put_take _ he).2.2.1
    rw [List.length_drop] at ih
    rw [List.length_cons]
    omega

/-- Records' bytes, one behind the other. -/
def puts (rs : List RecD) : List UInt8 := (rs.map RecD.put).flatten
theorem puts_append (rs ss : List RecD) : puts (rs ++ ss) = puts rs ++ puts ss := by unfold puts; rw [List.map_append, List.flatten_append]
theorem puts_one (r : RecD) : puts [r] = r.put := by simp [puts]
theorem puts_snoc (rs : List RecD) (r : RecD) : puts (rs ++ [r]) = puts rs ++ r.put := by rw [puts_append, puts_one]
/-- Where each of them ends. -/
def endsOf (rs : List RecD) : List Nat := (List.range rs.length).map fun j => (puts (rs.take (j + 1))).length
theorem ends_snoc (rs : List RecD) (r : RecD) : endsOf (rs ++ [r]) = endsOf rs ++ [(puts (rs ++ [r])).length] := by
  unfold endsOf
  rw [List.length_append, List.length_singleton, List.range_succ, List.map_append]
  congr 1
  · apply List.map_congr_left
    intro j hj
    have : j < rs.length := by simpa using hj
    rw [List.take_append_of_le_length (by omega)]
  · show [(puts ((rs ++ [r]).take (rs.length + 1))).length] = _
    rw [List.take_of_length_le (by simp)]
theorem ends_len (rs : List RecD) : (endsOf rs).length = rs.length := by simp [endsOf]
theorem take_snoc (rs : List RecD) {j : Nat} (hj : j < rs.length) : rs.take (j + 1) = rs.take j ++ [rs.getD j ⟨0, []⟩] := by
  rw [List.take_succ_eq_append_getElem hj, List.getD_eq_getElem?_getD, List.getElem?_eq_getElem hj]; rfl
theorem puts_len_take (rs : List RecD) (j : Nat) : (puts (rs.take j)).length ≤ (puts rs).length := by
  conv => rhs; rw [← List.take_append_drop j rs]
  rw [puts_append, List.length_append]
  omega

theorem AllIs.right {b : List UInt8} {rs : List RecD} {n : Nat} {e : Int} (h : AllIs b rs n e) : ∀ r ∈ rs, r.right := by
  induction h with
  | none => intro r hr; cases hr
  | stop h he => intro r hr; cases hr
  | more h he hr ih =>
    intro r hr
    rcases List.mem_cons.1 hr with rfl | hr
    · exact (put_take _ he).1
    · exact ih r hr
theorem AllIs.puts {b : List UInt8} {rs : List RecD} {n : Nat} {e : Int} (h : AllIs b rs n e) : puts rs = b.take n ∧ n ≤ b.length := by
  induction h with
  | none => exact ⟨rfl, Nat.le_refl _⟩
  | stop h he => exact ⟨by simp [Proofs.Ytflfiobicapopaa.puts], Nat.zero_le _⟩
  | @more b rs n e h he hr ih =>
    obtain ⟨h1, h2, h3, h4, h5⟩ := put_take _ he
    rw [List.length_drop] at ih
    refine ⟨?_, by omega⟩
    rw [List.take_add, ← h2, ← ih.1]
    show ((takeRec b :: rs).map RecD.put).flatten = _
    simp [Proofs.Ytflfiobicapopaa.puts]
theorem AllIs.done {b : List UInt8} {rs : List RecD} {n : Nat} {e : Int} (h : AllIs b rs n e) : e = 0 ↔ n = b.length := by
  induction h with
  | none => exact ⟨fun _ => rfl, fun _ => rfl⟩
  | stop h he => exact ⟨fun e => absurd e he, fun e => absurd (List.eq_nil_of_length_eq_zero e.symm) h⟩
  | more h he hr ih =>
    have h3 := (put_take _ he).2.2.1
    rw [List.length_drop] at ih
    rw [ih]
    omega
theorem AllIs.behind {b : List UInt8} : ∀ {rs : List RecD}, (∀ r ∈ rs, r.right) → ∀ {ss : List RecD} {n : Nat} {e : Int}, AllIs (Proofs.Ytflfiobicapopaa.puts rs ++ b) ss n e → ∃ ts m, ss = rs ++ ts ∧ AllIs b ts m e ∧ n = (Proofs.Ytflfiobicapopaa.puts rs).length + m
  | [], _, ss, n, e, h => ⟨ss, n, rfl, h, by simp [Proofs.Ytflfiobicapopaa.puts]⟩
  | r :: rs, hr, ss, n, e, h => by
    have hp : Proofs.Ytflfiobicapopaa.puts (r :: rs) ++ b = r.put ++ (Proofs.Ytflfiobicapopaa.puts rs ++ b) := by simp [Proofs.Ytflfiobicapopaa.puts]
    have hl : (Proofs.Ytflfiobicapopaa.puts (r :: rs)).length = r.put.length + (Proofs.Ytflfiobicapopaa.puts rs).length := by simp [Proofs.Ytflfiobicapopaa.puts]
    rw [hp] at h
    obtain ⟨t1, t2, t3⟩ := take_put r (hr r (List.mem_cons_self ..)) (Proofs.Ytflfiobicapopaa.puts rs ++ b)
    generalize hX : r.put ++ (Proofs.Ytflfiobicapopaa.puts rs ++ b) = X at *
    cases h with
    | none =>
      have := congrArg List.length hX
      rw [List.length_append, put_len] at this
      simp at this
    | stop h he => exact absurd t1 he
    | more h he h2 =>
      rw [t2, ← put_len, ← hX, List.drop_left] at h2
      obtain ⟨ts, m, h3, h4, h5⟩ := AllIs.behind (fun r' hr' => hr r' (List.mem_cons_of_mem _ hr')) h2
      exact ⟨ts, m, by rw [t3, h3]; rfl, h4, by rw [t2, hl, put_len]; omega⟩
theorem mem_getD {rs : List RecD} {i : Nat} (hi : i < rs.length) : rs.getD i ⟨0, []⟩ ∈ rs := by
  rw [List.getD_eq_getElem?_getD, List.getElem?_eq_getElem hi]
  exact List.getElem_mem hi

/-- How many bytes the first j records have. -/
def plen (rs : List RecD) (j : Nat) : Nat := (puts (rs.take j)).length
theorem plen_zero (rs : List RecD) : plen rs 0 = 0 := by simp [plen, puts]
theorem plen_all (rs : List RecD) : plen rs rs.length = (puts rs).length := by unfold plen; rw [List.take_length]
theorem plen_succ (rs : List RecD) {j : Nat} (hj : j < rs.length) : plen rs (j + 1) = plen rs j + (rs.getD j ⟨0, []⟩).put.length := by
  unfold plen
  rw [take_snoc rs hj, puts_snoc, List.length_append]
theorem plen_le (rs : List RecD) (j : Nat) : plen rs j ≤ (puts rs).length := by rw [← plen_all]; unfold plen; rw [List.take_length]; exact puts_len_take rs j
theorem plen_mono (rs : List RecD) : ∀ {i j : Nat}, i ≤ j → j ≤ rs.length → plen rs i ≤ plen rs j := by
  intro i j hij hj
  induction j with
  | zero =>
    have e : i = 0 := by omega
    rw [e]
    exact Nat.le_refl _
  | succ j ih =>
    by_cases e : i = j + 1
    · rw [e]; exact Nat.le_refl _
    · have := ih (by omega) (by omega)
      have := plen_succ rs (j := j) (by omega)
      omega

/-- How many records end at k, or ahead of it. -/
theorem split_at (rs : List RecD) (k : Nat) : ∃ t, t ≤ rs.length ∧ (∀ j, j ≤ t → plen rs j ≤ k) ∧ (∀ j, t < j → j ≤ rs.length → k < plen rs j) := by
  suffices h : ∀ n, n ≤ rs.length → ∃ t, t ≤ n ∧ (∀ j, j ≤ t → plen rs j ≤ k) ∧ (∀ j, t < j → j ≤ n → k < plen rs j) from h _ (Nat.le_refl _)
  intro n
  induction n with
  | zero =>
    intro _
    refine ⟨0, Nat.le_refl _, fun j hj => ?_, fun j h1 h2 => by omega⟩
    have e : j = 0 := by omega
    rw [e, plen_zero]
    exact Nat.zero_le _
  | succ n ih =>
    intro hn
    obtain ⟨t, ht, h1, h2⟩ := ih (by omega)
    by_cases hk : plen rs (n + 1) ≤ k
    · refine ⟨n + 1, Nat.le_refl _, fun j hj => Nat.le_trans (plen_mono rs hj hn) hk, fun j h3 h4 => by omega⟩
    · refine ⟨t, by omega, h1, fun j h3 h4 => ?_⟩
      by_cases e : j = n + 1
      · rw [e]; omega
      · exact h2 j h3 (by omega)

theorem take_cut (r : RecD) (hr : r.right) {j : Nat} (hj : j < r.put.length) : takeErr (r.put.take j) = 32 := by
  have hl : (r.put.take j).length = j := by rw [List.length_take]; omega
  have hp := put_len r
  unfold takeErr
  rw [hl]
  by_cases h9 : j < 9
  · rw [if_pos h9]
  · rw [if_neg h9]
    have e5 : ((r.put.take j).drop 5).take 4 = four r.d.length := by
      have e : ((r.put).drop 5).take 4 = four r.d.length := rfl
      rw [List.drop_take, List.take_take, Nat.min_eq_left (by omega), e]
    have hd : r.d.length < 4294967296 := by have := hr.2; omega
    have hd2 := hr.2
    rw [e5, le_four hd, if_neg (by omega), if_pos (by omega)]

theorem AllIs.nil {ss : List RecD} {m : Nat} {x : Int} (h : AllIs [] ss m x) : ss = [] ∧ m = 0 ∧ x = 0 := by
  cases h with
  | none => exact ⟨rfl, rfl, rfl⟩
  | stop h => exact absurd rfl h
  | more h => exact absurd rfl h
theorem AllIs.bad {b : List UInt8} {ss : List RecD} {m : Nat} {x : Int} (h : AllIs b ss m x) (hb : b ≠ []) (he : takeErr b ≠ 0) : ss = [] ∧ m = 0 ∧ x = takeErr b := by
  cases h with
  | none => exact absurd rfl hb
  | stop h => exact ⟨rfl, rfl, rfl⟩
  | more h h2 => exact absurd h2 he

theorem drop_one (rs : List RecD) {t : Nat} (ht : t < rs.length) : rs.drop t = rs.getD t ⟨0, []⟩ :: rs.drop (t + 1) := by
  rw [List.drop_eq_getElem_cons ht, List.getD_eq_getElem?_getD, List.getElem?_eq_getElem ht]; rfl
theorem puts_cons (r : RecD) (rs : List RecD) : puts (r :: rs) = r.put ++ puts rs := by simp [puts]
theorem puts_split (rs : List RecD) (t : Nat) : puts rs = puts (rs.take t) ++ puts (rs.drop t) := by rw [← puts_append, List.take_append_drop]

/-- Cut anywhere. -/
theorem cut_all (rs : List RecD) (hr : ∀ r ∈ rs, r.right) {k t : Nat} (hk : k ≤ (puts rs).length) (ht : t ≤ rs.length) (h1 : plen rs t ≤ k) (h2 : t < rs.length → k < plen rs (t + 1)) {ss : List RecD} {m : Nat} {x : Int} (h : AllIs ((puts rs).take k) ss m x) :
    ss = rs.take t ∧ m = plen rs t ∧ ((x = 0 ∧ plen rs t = k) ∨ (x = 32 ∧ ¬ plen rs t = k)) := by
  have hrt : ∀ r ∈ rs.take t, r.right := fun r h => hr r (List.mem_of_mem_take h)
  have e : (puts rs).take k = puts (rs.take t) ++ (puts (rs.drop t)).take (k - plen rs t) := by
    rw [puts_split rs t, List.take_append]
    congr 1
    exact List.take_of_length_le h1
  rw [e] at h
  obtain ⟨ts, m', e1, hA, e2⟩ := AllIs.behind hrt h
  have em : m = plen rs t + m' := e2
  by_cases htl : t < rs.length
  · have hk2 := h2 htl
    rw [plen_succ rs htl] at hk2
    have hri := hr _ (mem_getD htl)
    rw [drop_one rs htl, puts_cons, List.take_append_of_le_length (by omega)] at hA
    generalize rs.getD t ⟨0, []⟩ = r at *
    by_cases hz : k - plen rs t = 0
    · rw [hz, List.take_zero] at hA
      obtain ⟨rfl, rfl, rfl⟩ := hA.nil
      exact ⟨by rw [e1, List.append_nil], by omega, .inl ⟨rfl, by omega⟩⟩
    · have hc := take_cut r hri (j := k - plen rs t) (by omega)
      obtain ⟨rfl, rfl, e3⟩ := hA.bad (fun e => by have := congrArg List.length e; rw [List.length_take, List.length_nil] at this; omega) (by rw [hc]; decide)
      exact ⟨by rw [e1, List.append_nil], by omega, .inr ⟨e3.trans hc, by omega⟩⟩
  · have et : t = rs.length := by omega
    subst et
    rw [List.drop_length, show puts ([] : List RecD) = [] from rfl, List.take_nil] at hA
    obtain ⟨rfl, rfl, rfl⟩ := hA.nil
    have := plen_all rs
    exact ⟨by rw [e1, List.append_nil], by omega, .inl ⟨rfl, by omega⟩⟩

/-- A bit of a row's byte turned about turns its sum. -/
theorem sum_turned (xs : List UInt8) (i : Nat) (v : UInt8) (hi : i < xs.length) (hv : v ≠ 0) : sumB (xs.set i (xs[i] ^^^ v)) ≠ sumB xs := by
  intro h
  have h1 := (sum_eq_iff (xs.set i (xs[i] ^^^ v)) xs (by rw [List.length_set])).1 h
  rw [le_set xs i v hi, List.length_set, Nat.xor_comm (le xs), Nat.xor_assoc, Nat.xor_self, Nat.xor_zero] at h1
  have h2 := (burst (n := xs.length) (m := i) (E := v.toNat) (by omega) (by have := v.toNat_lt; omega)).1 h1
  exact hv (UInt8.toNat_inj.1 h2)

theorem rest_drop (r : RecD) : r.put.drop 4 = r.rest := rfl
theorem xor_ne (x v : UInt8) (hv : v ≠ 0) : x ^^^ v ≠ x := by
  intro h
  apply hv
  have h1 : x ^^^ (x ^^^ v) = x ^^^ x := by rw [h]
  rwa [← UInt8.xor_assoc, UInt8.xor_self, UInt8.zero_xor] at h1

/-- A record with a bit turned about, but not of its length, is none. -/
theorem turned_none (r : RecD) (hr : r.right) (more : List UInt8) (v : UInt8) (hv : v ≠ 0) {j : Nat} (hj : j < r.put.length) (hn : ¬ (5 ≤ j ∧ j < 9)) : takeErr (r.put.set j (r.put[j] ^^^ v) ++ more) ≠ 0 := by
  have hp := put_len r
  generalize hX : r.put.set j (r.put[j] ^^^ v) = X
  have hXl : X.length = 9 + r.d.length := by rw [← hX, List.length_set]; exact hp
  have hd : r.d.length < 4294967296 := by have := hr.2; omega
  have hd2 := hr.2
  have e5 : ((X ++ more).drop 5).take 4 = four r.d.length := by
    rw [List.drop_append_of_le_length (by omega), List.take_append_of_le_length (by rw [List.length_drop]; omega), ← hX]
    have e : ((r.put).drop 5).take 4 = four r.d.length := rfl
    rw [List.drop_set]
    by_cases h5 : j < 5
    · rw [if_pos h5]; exact e
    · rw [if_neg h5, List.take_set, List.set_eq_of_length_le (by rw [List.length_take, List.length_drop]; omega)]; exact e
  have es : ((X ++ more).drop 4).take (5 + r.d.length) = X.drop 4 := by
    rw [List.drop_append_of_le_length (by omega), List.take_append_of_le_length (by rw [List.length_drop]; omega), List.take_of_length_le (by rw [List.length_drop]; omega)]
  have e4 : (X ++ more).take 4 = X.take 4 := List.take_append_of_le_length (by omega)
  unfold takeErr
  rw [e5, le_four hd, es, e4, List.length_append]
  rw [if_neg (by omega), if_neg (by omega), if_neg (by omega)]
  have hne : sumB (X.drop 4) ≠ le (X.take 4) := by
    by_cases h4 : j < 4
    · have hd4 : X.drop 4 = r.rest := by rw [← hX, List.drop_set, if_pos h4]; rfl
      have ht4 : X.take 4 = (four (sumB r.rest)).set j ((four (sumB r.rest))[j]'(by rw [four_len]; exact h4) ^^^ v) := by
        rw [← hX, List.take_set]
        have e : r.put.take 4 = four (sumB r.rest) := rfl
        have e' : r.put[j] = (four (sumB r.rest))[j]'(by rw [four_len]; exact h4) := by
          have : r.put = four (sumB r.rest) ++ r.rest := rfl
          simp only [this]
          rw [List.getElem_append_left]
        rw [e, e']
      rw [hd4, ht4]
      intro h
      have h2 : le (four (sumB r.rest)) = le ((four (sumB r.rest)).set j ((four (sumB r.rest))[j]'(by rw [four_len]; exact h4) ^^^ v)) := by rw [le_four (sum_lt _)]; exact h
      have h3 := le_inj _ _ (by rw [List.length_set]) h2
      have h4' : (four (sumB r.rest))[j]'(by rw [four_len]; exact h4) = ((four (sumB r.rest)).set j ((four (sumB r.rest))[j]'(by rw [four_len]; exact h4) ^^^ v))[j]'(by rw [List.length_set, four_len]; exact h4) := by
        simp only [← h3]
      rw [List.getElem_set_self] at h4'
      exact xor_ne _ v hv h4'.symm
    · have ht4 : X.take 4 = four (sumB r.rest) := by
        rw [← hX, List.take_set, List.set_eq_of_length_le (by rw [List.length_take]; omega)]; rfl
      have hjl : j - 4 < r.rest.length := by rw [rest_len]; omega
      have hd4 : X.drop 4 = r.rest.set (j - 4) (r.rest[j - 4] ^^^ v) := by
        rw [← hX, List.drop_set, if_neg h4]
        have e : r.put.drop 4 = r.rest := rfl
        have e' : r.put[j] = r.rest[j - 4] := by
          have h5 : r.put = four (sumB r.rest) ++ r.rest := rfl
          simp only [h5]
          rw [List.getElem_append_right (by rw [four_len]; omega)]
          simp only [four_len]
        rw [e, e']
      rw [ht4, hd4, le_four (sum_lt _)]
      exact sum_turned _ _ v hjl hv
  rw [if_pos hne]
  decide

/-- A bit turned about. -/
theorem turned_all (rs : List RecD) (hr : ∀ r ∈ rs, r.right) {k t : Nat} (ht : t < rs.length) (h1 : plen rs t ≤ k) (h2 : k < plen rs (t + 1)) (hn : ¬ (5 ≤ k - plen rs t ∧ k - plen rs t < 9)) (v : UInt8) (hv : v ≠ 0) (hk : k < (puts rs).length) {ss : List RecD} {m : Nat} {x : Int}
    (h : AllIs ((puts rs).set k ((puts rs)[k] ^^^ v)) ss m x) : ss = rs.take t ∧ x ≠ 0 := by
  have hrt : ∀ r ∈ rs.take t, r.right := fun r h => hr r (List.mem_of_mem_take h)
  rw [plen_succ rs ht] at h2
  have hri := hr _ (mem_getD ht)
  have hsp : puts rs = puts (rs.take t) ++ ((rs.getD t ⟨0, []⟩).put ++ puts (rs.drop (t + 1))) := by rw [← puts_cons, ← drop_one rs ht, ← puts_split]
  generalize rs.getD t ⟨0, []⟩ = r at *
  have hjl : k - plen rs t < r.put.length := by omega
  have hge : (puts rs)[k] = r.put[k - plen rs t] := by
    simp only [hsp]
    rw [List.getElem_append_right (by exact h1), List.getElem_append_left (by exact hjl)]
    rfl
  have e : (puts rs).set k ((puts rs)[k] ^^^ v) = puts (rs.take t) ++ (r.put.set (k - plen rs t) (r.put[k - plen rs t] ^^^ v) ++ puts (rs.drop (t + 1))) := by
    rw [hge]
    conv => lhs; rw [hsp]
    rw [List.set_append_right _ _ (by exact h1), List.set_append_left _ _ (by exact hjl)]
    rfl
  rw [e] at h
  obtain ⟨ts, m', e1, hA, e2⟩ := AllIs.behind hrt h
  have hT := turned_none r hri (puts (rs.drop (t + 1))) v hv hjl hn
  obtain ⟨rfl, _, e3⟩ := hA.bad (fun e => by have := congrArg List.length e; rw [List.length_append, List.length_set, put_len] at this; simp at this) hT
  exact ⟨by rw [e1, List.append_nil], by rw [e3]; exact hT⟩
end Go.Proofs.Ytflfiobicapopaa

namespace Go.Proofs.Ytflfiobicapopaa
open Go.RowKit

/-- A record's two cells. -/
def recCells (r : RecD) (v : Value) : List Value := [.int .u8 (r.k.toNat : Nat), v]
/-- Records' cells, their data in blocks that are new since w. -/
inductive Cells (w W : World) : List RecD → List Value → Prop
  | nil : Cells w W [] []
  | snoc {rs : List RecD} {xs : List Value} {r : RecD} {a : Option Addr} {n c : Nat} (h : Cells w W rs xs) (ho : Own w (.slice a n c) r.d W) : Cells w W (rs ++ [r]) (xs ++ recCells r (.slice a n c))

theorem Cells.to {w W W' : World} {rs : List RecD} {xs : List Value} (h : Cells w W rs xs) (hb : Below w.heap.size w W') (hk : ∀ (k : Nat) (cs : Array Value) (f : Nat × Nat), W.heap[k]? = some (Obj.cells cs 5 f) → W'.heap[k]? = W.heap[k]?) : Cells w W' rs xs := by
  induction h with
  | nil => exact .nil
  | snoc h ho ih =>
    refine .snoc ih ⟨own_keeps ho.own fun k hk' => ?_, ho.new, hb⟩
    rcases ho.own.2 with ⟨h1, _⟩ | ⟨g, cap, cur, h1, _, h3, _⟩
    · rw [h1] at hk'; cases hk'
    · rw [h1] at hk'
      have e : g = k := by simpa [Value.ownBlock] using hk'
      subst e
      exact hk _ _ _ h3
theorem Cells.len {w W : World} {rs : List RecD} {xs : List Value} (h : Cells w W rs xs) : xs.length = 2 * rs.length := by
  induction h with
  | nil => rfl
  | snoc h ho ih => rw [List.length_append, List.length_append, ih]; show _ + 2 = 2 * (_ + 1); omega
theorem Cells.at {w W : World} {rs : List RecD} {xs : List Value} (h : Cells w W rs xs) {i : Nat} (hi : i < rs.length) : ∃ a n c, xs[2 * i]? = some (.int .u8 ((rs.getD i ⟨0, []⟩).k.toNat : Nat)) ∧ xs[2 * i + 1]? = some (.slice a n c) ∧ Own w (.slice a n c) (rs.getD i ⟨0, []⟩).d W := by
  induction h with
  | nil => simp at hi
  | @snoc rs xs r a n c h ho ih =>
    have hl := h.len
    rw [List.length_append] at hi
    by_cases hlt : i < rs.length
    · obtain ⟨a', n', c', h1, h2, h3⟩ := ih hlt
      have e : (rs ++ [r]).getD i ⟨0, []⟩ = rs.getD i ⟨0, []⟩ := by rw [List.getD_eq_getElem?_getD, List.getD_eq_getElem?_getD, List.getElem?_append_left hlt]
      rw [e]
      exact ⟨a', n', c', by rw [List.getElem?_append_left (by omega)]; exact h1, by rw [List.getElem?_append_left (by omega)]; exact h2, h3⟩
    · have ei : i = rs.length := by simp at hi; omega
      subst ei
      have e : (rs ++ [r]).getD rs.length ⟨0, []⟩ = r := by rw [List.getD_eq_getElem?_getD, List.getElem?_append_right (Nat.le_refl _), Nat.sub_self]; rfl
      rw [e]
      refine ⟨a, n, c, ?_, ?_, ho⟩
      · rw [List.getElem?_append_right (by omega), hl, Nat.sub_self]; rfl
      · rw [List.getElem?_append_right (by omega), hl, show 2 * rs.length + 1 - 2 * rs.length = 1 by omega]; rfl

/-- A row of records, all of it new since w. -/
structure RecsO (w : World) (v : Value) (rs : List RecD) (W : World) : Prop where
  row : ∃ xs, W.ownsRow w.heap.size 99 2 v rs.length xs ∧ Cells w W rs xs
  bb : Below w.heap.size w W

theorem RecsO.start (w : World) : RecsO w (.slice none 0 0) [] w := ⟨⟨[], World.ownsRow_nil _ _ _ _, .nil⟩, Below.refl _ w⟩
theorem row_keeps {W W' : World} {base size : Nat} {e : TypeId} {v : Value} {n : Nat} {xs : List Value} (h : W.ownsRow base e size v n xs) (hk : ∀ k, v.ownBlock = some k → W'.heap[k]? = W.heap[k]?) : W'.ownsRow base e size v n xs := by
  refine ⟨h.1, ?_⟩
  rcases h.2 with h | ⟨g, cap, cur, h1, h2, h3, h4⟩
  · exact .inl h
  · exact .inr ⟨g, cap, cur, h1, h2, by rw [hk g (by rw [h1]; rfl)]; exact h3, h4⟩
theorem RecsO.later {w W W' : World} {v : Value} {rs : List RecD} (h : RecsO w v rs W) (hb : Below W.heap.size W W') : RecsO w v rs W' := by
  obtain ⟨⟨xs, h1, h2⟩, h3⟩ := h
  have hb' := h3.trans (hb.mono h3.size)
  exact ⟨⟨xs, row_keeps h1 fun k hk => hb.block k (h1.lt k hk).2, h2.to hb' fun k cs f hk => hb.block k (Array.getElem?_eq_some_iff.1 hk).1⟩, hb'⟩
theorem RecsO.recsAt {w W : World} {v : Value} {rs : List RecD} (h : RecsO w v rs W) : RecsAt W v rs := by
  obtain ⟨⟨xs, h1, h2⟩, _⟩ := h
  rcases h1.2 with ⟨rfl, h0⟩ | ⟨g, cap, cur, rfl, _, h3, h4, _⟩
  · exact .inl ⟨⟨_, _, rfl⟩, List.eq_nil_of_length_eq_zero h0⟩
  · refine .inr ⟨g, 0, cap, rfl, h4, fun i hi => ?_⟩
    obtain ⟨a, n, c, e1, e2, e3⟩ := h2.at hi
    have hc := h1.cells (g := g) rfl
    refine ⟨a, n, c, ?_, ?_, bytes_of_owns e3.own⟩
    · have := hc _ _ e1; rwa [Addr.add_mid] at this
    · have := hc _ _ e2; rwa [Addr.add_mid] at this

theorem infoRec0 : (Try.prog.info? 99).map (fun i => (i.zero.map (·.cells.size), i.size, i.bytes)) = some (some 2, 2, 32) := by kernel_rfl
theorem infoRec : ∃ i z, Try.prog.info? 99 = some i ∧ i.zero = some z ∧ i.size = 2 ∧ i.bytes = 32 ∧ z.cells.size = 2 := by
  have h := infoRec0
  cases hi : Try.prog.info? 99 with
  | none => rw [hi] at h; cases h
  | some i =>
    rw [hi] at h
    simp only [Option.map_some, Option.some.injEq, Prod.mk.injEq] at h
    cases hz : i.zero with
    | none => rw [hz] at h; cases h.1
    | some z => rw [hz] at h; simp only [Option.map_some, Option.some.injEq] at h; exact ⟨i, z, rfl, hz, h.2.1, h.2.2, h.1⟩

/-- A record is appended to a row of ours. -/
theorem wpList_append_rec {w W : World} {ops : Array Oper} {rest : List Oper} {op : Oper} {a : Act} {Q : Exit → Act → World → Prop}
    (hg : op.guard = none) (s x : Operand) (hop : op.op = Op.call { callee := Callee.builtin Builtin.append, args := #[s, x], argTypes := #[96, 96] })
    (v : Value) (rs : List RecD) (r : RecD) (a' : Option Addr) (n' c' g cap : Nat) (hsv : a.eval s = v) (hR : RecsO w v rs W) (hx : a.eval x = .slice (some ⟨g, 0, none⟩) 1 cap)
    (h0 : W.cell? ⟨g, 0, none⟩ = some (.int .u8 (r.k.toNat : Nat))) (h1 : W.cell? ⟨g, 1, none⟩ = some (.slice a' n' c')) (hO : Own w (.slice a' n' c') r.d W) (hl : rs.length ≤ 1048576)
    (hK : ∀ v' W', RecsO w v' (rs ++ [r]) W' → wpList Try.prog ops Q rest (a.put op.dst v') W') :
    wpList Try.prog ops Q (op :: rest) a W := by
  obtain ⟨i, z, hi, hz, hs, hb, hzs⟩ := infoRec
  obtain ⟨⟨xs, hrow, hcells⟩, hbb⟩ := hR
  refine wpList_plain hg fun K hK' => ?_
  obtain ⟨v', W', hrun, r1, r2, _⟩ := run_append_own (P := Try.prog) W w.heap.size 96 op.type 99 i z 2 32 Try.underlying96 hi hz hs hb hzs (by decide) v rs.length xs hrow ⟨g, 0, none⟩ 1 cap (recCells r (.slice a' n' c')) rfl
    (fun j u hj => by
      match j, hj with
      | 0, hj => cases hj; exact h0
      | 1, hj => cases hj; exact h1)
    (fun u hu => by
      have : u = .int .u8 (r.k.toNat : Nat) ∨ u = .slice a' n' c' := by simpa [recCells] using hu
      rcases this with rfl | rfl <;> rfl)
    (by unfold maxLen; omega) (by omega) hbb.size
  have hb' : Below w.heap.size w W' := ⟨r2.os.trans hbb.os, r2.tape.trans hbb.tape, r2.output.trans hbb.output, Nat.le_trans hbb.size r2.size, fun k hk => (r2.block k (Nat.lt_of_lt_of_le hk hbb.size) (fun e => by have := (hrow.lt k e.symm).1; omega)).trans (hbb.block k hk)⟩
  have hkp : ∀ (k : Nat) (cs : Array Value) (f : Nat × Nat), W.heap[k]? = some (Obj.cells cs 5 f) → W'.heap[k]? = W.heap[k]? := fun k cs f hk => by
    refine r2.block k (Array.getElem?_eq_some_iff.1 hk).1 fun e => ?_
    rcases hrow.2 with ⟨e1, _⟩ | ⟨g2, _, _, e1, _, e3, _⟩
    · rw [e1] at e; cases e
    · rw [e1] at e
      have e' : k = g2 := by simpa [Value.ownBlock] using e
      subst e'
      rw [e3] at hk
      cases hk
  have hfin : RecsO w v' (rs ++ [r]) W' := by
    refine ⟨⟨_, by rw [List.length_append]; exact r1, .snoc (hcells.to hb' hkp) ⟨own_keeps hO.own fun k hk => ?_, hO.new, hb'⟩⟩, hb'⟩
    rcases hO.own.2 with ⟨e1, _⟩ | ⟨g2, _, _, e1, _, e3, _⟩
    · rw [e1] at hk; cases hk
    · rw [e1] at hk
      have e' : g2 = k := by simpa [Value.ownBlock] using hk
      subst e'
      exact hkp _ _ _ e3
  unfold Oper.wp
  simp [execOp, hop, resolve, invoke, builtin, hsv, hx, hrun, Result.andThen]
  exact hK' _ _ (hK v' W' hfin)
end Go.Proofs.Ytflfiobicapopaa

namespace Go.Proofs.Ytflfiobicapopaa
open Go.RowKit

/-- What All answers, in memory. -/
def AllAt (w : World) (b : List UInt8) (e : Ending) (w' : World) : Prop := ∃ v rs m x, e = .returned (.tuple #[v, .int .i64 ((m : Nat) : Int), .int .i64 x]) ∧ AllIs b rs m x ∧ RecsO w v rs w'

theorem took_size {b : List UInt8} (h : takeErr b = 0) : 9 ≤ takeLen b ∧ takeLen b ≤ b.length := ⟨(put_take b h).2.2.2.1, (put_take b h).2.2.1⟩


end Go.Proofs.Ytflfiobicapopaa

namespace Go.Proofs.Ytflfiobicapopaa
open Go.RowKit

/-- copy as one step of a region that draws its order, its run laid. -/
theorem step_copy_run {P : Program} {ops : Array Oper} {op : Oper} {a : Act} {w W' : World} {K : Act → World → Prop} {Q : Exit → Act → World → Prop} {E : Prop} (hgd : op.guard = none) (d s : Operand) (dT sT : TypeId)
    (ho : op.op = .call { callee := .builtin .copy, args := #[d, s], argTypes := #[dT, sT] }) (dv sv v : Value) (hd : a.eval d = dv) (hs : a.eval s = sv)
    (hrun : (Builtin.copy_ #[dT, sT] op.type #[dv, sv]).run P w = .ok v W') (h : K (a.put op.dst v) W') :
    if Region.wanted op (yielded ops a.tmps) = true then Oper.wp P op a w K Q else E := by
  have hw : Region.wanted op (yielded ops a.tmps) = true := by simp [Region.wanted, hgd]
  rw [if_pos hw]
  unfold Oper.wp
  simp [execOp, ho, resolve, invoke, builtin, hd, hs, hrun, Result.andThen]
  exact h

/-- A row with other bytes from place o on. -/
def overAt (bs : List UInt8) : Nat → List UInt8 → List UInt8
  | _, [] => bs
  | o, x :: xs => overAt (bs.set o x) (o + 1) xs
theorem overAt_behind (p q : List UInt8) : ∀ (xs : List UInt8), q.length = xs.length → overAt (p ++ q) p.length xs = p ++ xs := by
  intro xs
  induction xs generalizing p q with
  | nil => intro h; rw [List.eq_nil_of_length_eq_zero h]; rfl
  | cons x xs ih =>
    intro h
    match q, h with
    | y :: q, h =>
      have e : (p ++ y :: q).set p.length x = (p ++ [x]) ++ q := by
        rw [List.set_append_right _ _ (Nat.le_refl _), Nat.sub_self]
        simp
      rw [overAt, e]
      have h2 := ih (p ++ [x]) q (by simpa using h)
      rw [List.length_append, List.length_singleton] at h2
      rw [h2]
      simp

theorem Own.put {w0 W : World} {g N C : Nat} {bs : List UInt8} (h : Own w0 (.slice (some ⟨g, 0, none⟩) N C) bs W) (hl : bs.length = N) {k : Nat} (hk : k < N) :
    (∃ x, W.cell? ⟨g, k, none⟩ = some (.int .u8 x)) ∧ W.frozen? ⟨g, k, none⟩ = false ∧ ∀ y : Nat, y < 256 → Own w0 (.slice (some ⟨g, 0, none⟩) N C) (bs.set k (UInt8.ofNat y)) (W.setCell ⟨g, k, none⟩ (.int .u8 ((y : Nat) : Int))) := by
  obtain ⟨b, e, hc, hf, hs⟩ := own_at h.own hl hk
  simp only [Option.some.injEq, Addr.mk.injEq, and_true] at e
  subst e
  refine ⟨⟨_, hc⟩, hf, fun y hy => ⟨?_, h.new, h.bb.setCell (p := ⟨g, k, none⟩) (h.new g rfl) _⟩⟩
  have h2 := hs (UInt8.ofNat y)
  rw [u8_of y hy] at h2
  exact h2

/-- Bytes are copied into a row of our own. -/
theorem Own.copy {w0 : World} {g N C : Nat} : ∀ (xs bs : List UInt8) (o : Nat) (W : World), Own w0 (.slice (some ⟨g, 0, none⟩) N C) bs W → bs.length = N → o + xs.length ≤ N → Own w0 (.slice (some ⟨g, 0, none⟩) N C) (overAt bs o xs) (W.setCells g o (xs.map bv))
  | [], _, _, _, h, _, _ => h
  | x :: xs, bs, o, W, h, hl, ho => by
    rw [List.length_cons] at ho
    obtain ⟨_, _, hp⟩ := h.put hl (k := o) (by omega)
    have h2 := hp x.toNat x.toNat_lt
    rw [UInt8.ofNat_toNat] at h2
    exact Own.copy xs (bs.set o x) (o + 1) (W.setCell ⟨g, o, none⟩ (bv x)) h2 (by rw [List.length_set]; exact hl) (by omega)
theorem Own.there {w0 W : World} {g N C : Nat} {bs : List UInt8} (h : Own w0 (.slice (some ⟨g, 0, none⟩) N C) bs W) (hl : bs.length = N) {o n : Nat} (hk : o + n ≤ N) : W.there g o n := fun j hj => by
  obtain ⟨⟨x, hc⟩, hf, _⟩ := h.put hl (k := o + j) (by omega)
  exact ⟨by rw [hc]; rfl, hf⟩

/-- make of bytes. -/
theorem makeBytes (n : Nat) (hn : n ≤ 1048576) : ∃ Z : Array Value, Z = ((List.replicate n (0 : UInt8)).map bv).toArray ∧ ∀ W : World, (Instr.makeSlice 49 (.int .i64 (n : Int)) (.int .i64 (n : Int))).run Try.prog W = .ok (.slice (some ⟨W.heap.size, 0, none⟩) n n) (W.alloc (.cells Z 5)) := by
  obtain ⟨i, hi, hz0, hz1, hz2⟩ := infoByte
  refine ⟨madeCells (Value.int .u8 0).cells (Int.toNat n * i.size), ?_, fun W => ?_⟩
  · rw [hz1, Nat.mul_one, Int.toNat_natCast]
    apply Array.ext'
    rw [List.map_replicate]
    exact toList_madeCells_one _ _
  · have := run_make (P := Try.prog) W 49 5 i (.int .u8 0) Try.underlying49 hi hz0 .i64 .i64 n n (by omega) (by omega) (by rw [hz2]; omega) (by omega)
    simpa using this
theorem Own.made (w : World) {n : Nat} {Z : Array Value} (hZ : Z = ((List.replicate n (0 : UInt8)).map bv).toArray) (hn : n ≤ 1048576) : Own w (.slice (some ⟨w.heap.size, 0, none⟩) n n) (List.replicate n (0 : UInt8)) (w.alloc (.cells Z 5)) := by
  refine ⟨⟨by simp, .inr ⟨w.heap.size, n, Z, by simp, Nat.zero_le _, heap_alloc_new w _, by simp, by unfold maxLen; omega, by rw [hZ]; simp, ?_⟩⟩, fun k hk => by simp [Value.ownBlock] at hk; omega, (Below.refl _ w).alloc (Nat.le_refl _) _⟩
  rw [hZ]
  simp

/-- b[l:] of a row of our own, where its address is wanted. -/
theorem slice_row (g N C l : Nat) (hl : l < C) (hlN : l ≤ N) : (∀ W : World, (Instr.slice 49 (.slice (some ⟨g, 0, none⟩) N C) (some (.int .i64 (l : Nat))) none none).run Try.prog W = .ok (.slice (some ⟨g, l, none⟩) (N - l) (C - l)) W) ∧ (∀ W : World, (Instr.sliceAt 49 (.slice (some ⟨g, 0, none⟩) N C) (some (.int .i64 (l : Nat))) none none).run Try.prog W = .ok (.slice (some ⟨g, l, none⟩) (N - l) (C - l)) W) := by
  have hu : Try.prog.underlying 49 = some (.slice 5) := Try.underlying49
  have hel : Try.prog.elem 49 = 5 := by unfold Program.elem; rw [hu]
  have hu' : Try.prog.underlying 49 = some (.slice (Try.prog.elem 49)) := by rw [hel]; exact hu
  have hr : ∀ W : World, (Instr.slice 49 (.slice (some ⟨g, 0, none⟩) N C) (some (.int .i64 (l : Nat))) none none).run Try.prog W = .ok (.slice (some ⟨g, l, none⟩) (N - l) (C - l)) W := fun W => by
    rw [run_slice_l W 49 (some ⟨g, 0, none⟩) N C hu' .i64 l (by omega) (by omega), hel]
    have hsz : (sizeOf 5).run Try.prog W = .ok 1 W := by simp [sizeOf]; rfl
    rw [hsz]
    simp only [Result.andThen, sliced, Int.toNat_natCast, Nat.mul_one, if_neg (show ¬ C = l by omega), Option.map_some, Addr.add_mid, Nat.zero_add]
  exact ⟨hr, fun W => by rw [run_sliceAt_slice W _ _ _ _ _ hu']; exact hr W⟩
/-- Bytes are copied behind place l of a row of our own. -/
theorem copy_behind {w0 W : World} {G N l : Nat} {bs xs : List UInt8} {a : Option Addr} {n c : Nat} (h : Own w0 (.slice (some ⟨G, 0, none⟩) N N) bs W) (hl : bs.length = N) (hN : N = l + n) (hx : Bytes W (.slice a n c) xs) (ty : TypeId) :
    ∃ dv, (∀ X : World, (Instr.slice 49 (.slice (some ⟨G, 0, none⟩) N N) (some (.int .i64 (l : Nat))) none none).run Try.prog X = .ok (.slice (some dv) (N - l) (N - l)) X) ∧ (∀ X : World, (Instr.sliceAt 49 (.slice (some ⟨G, 0, none⟩) N N) (some (.int .i64 (l : Nat))) none none).run Try.prog X = .ok (.slice (some dv) (N - l) (N - l)) X) ∧
      (Builtin.copy_ #[49, 49] ty #[.slice (some dv) (N - l) (N - l), .slice a n c]).run Try.prog W = .ok (goInt n) (W.setCells G l (xs.map bv)) ∧ Own w0 (.slice (some ⟨G, 0, none⟩) N N) (overAt bs l xs) (W.setCells G l (xs.map bv)) := by
  obtain ⟨hxl, _⟩ := bytes_len hx
  have hfin := h.copy xs bs l W hl (by omega)
  by_cases h0 : n = 0
  · subst h0
    have hx0 : xs = [] := List.eq_nil_of_length_eq_zero hxl
    subst hx0
    have hNl : N = l := by omega
    have hu : Try.prog.underlying 49 = some (.slice 5) := Try.underlying49
    have hel : Try.prog.elem 49 = 5 := by unfold Program.elem; rw [hu]
    have hu' : Try.prog.underlying 49 = some (.slice (Try.prog.elem 49)) := by rw [hel]; exact hu
    have hr : ∀ X : World, (Instr.slice 49 (.slice (some ⟨G, 0, none⟩) N N) (some (.int .i64 (l : Nat))) none none).run Try.prog X = .ok (.slice (some ⟨G, 0, none⟩) (N - l) (N - l)) X := fun X => by
      rw [run_slice_l X 49 (some ⟨G, 0, none⟩) N N hu' .i64 l (by omega) (by omega), hel]
      have hsz : (sizeOf 5).run Try.prog X = .ok 1 X := by simp [sizeOf]; rfl
      rw [hsz]
      simp only [Result.andThen, sliced, Int.toNat_natCast, Nat.mul_one, if_pos hNl]
    refine ⟨⟨G, 0, none⟩, hr, fun X => by rw [run_sliceAt_slice X _ _ _ _ _ hu']; exact hr X, ?_, hfin⟩
    rw [run_copy_none W _ _ ty 5 _ _ _ _ _ _ hu infoByteSize (by show min 0 _ = 0; omega)]
    rfl
  · obtain ⟨q, q'⟩ := slice_row G N N l (by omega) (by omega)
    rcases hx with ⟨hv, hb⟩ | ⟨ad, c', hv, hl1, hl2, hr⟩
    · rw [hb] at hxl
      exact absurd hxl.symm h0
    · simp only [Value.slice.injEq] at hv
      obtain ⟨rfl, _, rfl⟩ := hv
      refine ⟨⟨G, l, none⟩, q, q', ?_, hfin⟩
      have ht := h.there hl (o := l) (n := n) (by omega)
      have := run_copy_cells (P := Try.prog) W 49 49 ty 5 G l (N - l) (N - l) ad n c (xs.map bv) Try.underlying49 infoByteSize (by rw [List.length_map, hxl]; show n = min n _; omega) hr (fun j hj => (ht j (by rw [List.length_map, hxl] at hj; exact hj)).1) (fun j hj => (ht j (by rw [List.length_map, hxl] at hj; exact hj)).2) (bv_one _)
      rw [List.length_map, hxl] at this
      exact this
end Go.Proofs.Ytflfiobicapopaa

namespace Go.Proofs.Ytflfiobicapopaa
open Go.RowKit

theorem isKind_any (k : Nat) (w : World) : Calls Try.prog 82 #[.int .u8 (k : Nat)] w fun e w' => e = .returned (.bool (decide (1 ≤ k ∧ k ≤ 2))) ∧ w' = w := by
  by_cases h1 : 1 ≤ k
  · by_cases h2 : k ≤ 2
    · have g1 : ((k : Nat) : Int) ≥ 1 := by omega
      have g2 : ((k : Nat) : Int) ≤ 2 := by omega
      rw [decide_eq_true ⟨h1, h2⟩]
      clear h1 h2
      go_enter Try.func82, Try.ntmps82
      go_wp2
      go_ret
      exact ⟨rfl, rfl⟩
    · have g1 : ((k : Nat) : Int) ≥ 1 := by omega
      have g2 : ¬ ((k : Nat) : Int) ≤ 2 := by omega
      rw [decide_eq_false fun h => h2 h.2]
      clear h1 h2
      go_enter Try.func82, Try.ntmps82
      go_wp2
      go_ret
      exact ⟨rfl, rfl⟩
  · have g1 : ¬ ((k : Nat) : Int) ≥ 1 := by omega
    rw [decide_eq_false fun h => h1 h.1]
    clear h1
    go_enter Try.func82, Try.ntmps82
    go_wp2
    go_ret
    exact ⟨rfl, rfl⟩

theorem long_any (n : Int) (w : World) : Calls Try.prog 64 #[.int .i64 n] w fun e w' => e = .returned (.int .i64 (if 0 ≤ n ∧ n ≤ 4096 then n + 9 else 0)) ∧ w' = w := by
  by_cases h1 : n < 0
  · rw [if_neg (by omega)]
    go_enter Try.func64, Try.ntmps64
    go_wp2
    go_ret
    exact ⟨rfl, rfl⟩
  · by_cases h2 : n > 4096
    · rw [if_neg (by omega)]
      go_enter Try.func64, Try.ntmps64
      go_wp2
      go_ret
      exact ⟨rfl, rfl⟩
    · rw [if_pos (by omega)]
      have e : IntKind.i64.wrap (9 + n) = n + 9 := by rw [IntKind.wrap_i64]; omega
      have e2 : 9 + n = n + 9 := by omega
      go_enter Try.func64, Try.ntmps64
      go_wp2
      go_ret
      exact ⟨ret_int (by omega), rfl⟩

theorem or_add (x y k : Nat) (h : x < 2 ^ k) : x ||| (2 ^ k * y) = x + 2 ^ k * y := by
  rw [Nat.or_comm, ← Nat.two_pow_add_eq_or_of_lt h, Nat.add_comm]

/-- The first bytes' number. -/
theorem le_take_succ (bs : List UInt8) (j : Nat) (h : j < bs.length) : le (bs.take (j + 1)) = le (bs.take j) + 2 ^ (8 * j) * (bs.getD j 0).toNat := by
  induction j generalizing bs with
  | zero =>
    match bs, h with
    | b :: bs, _ => simp [le]
  | succ j ih =>
    match bs, h with
    | b :: bs, h =>
      have h2 : j < bs.length := by simpa using h
      have e := ih bs h2
      show b.toNat + 256 * le (bs.take (j + 1)) = b.toNat + 256 * le (bs.take j) + 2 ^ (8 * (j + 1)) * (bs.getD j 0).toNat
      rw [e, Nat.mul_add, show 8 * (j + 1) = 8 + 8 * j by omega, Nat.pow_add, Nat.mul_assoc, Nat.add_assoc]

theorem number_step (bs : List UInt8) (j : Nat) (h : j < bs.length) (hj : j < 4) : bits .or .u32 ((le (bs.take j) : Nat) : Int) ((((bs.getD j 0).toNat * 2 ^ (8 * j) : Nat) : Int)) = ((le (bs.take (j + 1)) : Nat) : Int) := by
  have h1 := le_lt (bs.take j)
  have hl : (bs.take j).length = j := by rw [List.length_take]; omega
  rw [hl] at h1
  have hb := (bs.getD j 0).toNat_lt
  have h2 : le (bs.take j) < 4294967296 := Nat.lt_of_lt_of_le h1 (by rw [show 4294967296 = 2 ^ 32 by decide]; exact Nat.pow_le_pow_right (by decide) (by omega))
  have h3 : (bs.getD j 0).toNat * 2 ^ (8 * j) < 4294967296 := by
    have : (bs.getD j 0).toNat * 2 ^ (8 * j) < 2 ^ 8 * 2 ^ (8 * j) := Nat.mul_lt_mul_of_pos_right (by omega) (Nat.two_pow_pos _)
    rw [← Nat.pow_add] at this
    exact Nat.lt_of_lt_of_le this (by rw [show 4294967296 = 2 ^ 32 by decide]; exact Nat.pow_le_pow_right (by decide) (by omega))
  rw [le_take_succ bs j h]
  have := u32_or_nat (le (bs.take j)) ((bs.getD j 0).toNat * 2 ^ (8 * j)) h2 h3
  rw [this, Nat.mul_comm (bs.getD j 0).toNat, or_add _ _ _ h1]

set_option maxRecDepth 100000 in
set_option maxHeartbeats 2000000 in
theorem number_any (a : Option Addr) (n c : Nat) (bs : List UInt8) (w : World) (h : Bytes w (.slice a n c) bs) (hn : 4 ≤ n) : Calls Try.prog 93 #[.slice a n c] w fun e w' => e = .returned (.int .u32 (le (bs.take 4) : Nat)) ∧ w' = w := by
  have hl := (bytes_len h).1
  have HL := hide hl
  obtain ⟨bb, o, rfl⟩ := byte_spot h (by omega)
  have HH := hide h
  clear h hl
  go_enter Try.func93, Try.ntmps93
  go_wp2_with fail
  go_loopw [3, 5] (fun x i W => ∃ j : Nat, j ≤ 4 ∧ i = .int .i64 j ∧ x = .int .u32 ((le (bs.take j) : Nat) : Int) ∧ W = w) (fun _ i _ => 4 - (intOf i).toNat)
  case atStart => exact ⟨0, by omega, rfl, by simp [le], rfl⟩
  case round =>
    obtain ⟨j, hj, rfl, rfl, rfl⟩ := hrel
    by_cases hlt : j < 4
    · have hc := byte_at (unhide HH) (i := j) (by omega)
      have HS := hide (number_step bs j (by have := unhide HL; omega) hlt)
      have hy := (bs.getD j 0).toNat_lt
      generalize (bs.getD j 0).toNat = y at *
      generalize le (bs.take j) = x at *
      rcases (show j = 0 ∨ j = 1 ∨ j = 2 ∨ j = 3 by omega) with rfl | rfl | rfl | rfl
      · rw [Nat.add_zero] at hc
        go_wp2_with fail
        exact ⟨⟨1, by omega, rfl, by rw [← unhide HS]; simp, trivial⟩, by simp [intOf]⟩
      · go_wp2_with fail
        exact ⟨⟨2, by omega, rfl, by rw [← unhide HS]; simp, trivial⟩, by simp [intOf]⟩
      · go_wp2_with fail
        exact ⟨⟨3, by omega, rfl, by rw [← unhide HS]; simp, trivial⟩, by simp [intOf]⟩
      · go_wp2_with fail
        exact ⟨⟨4, by omega, rfl, by rw [← unhide HS]; simp, trivial⟩, by simp [intOf]⟩
    · have e : j = 4 := by omega
      subst e
      go_wp2_with fail
      go_ret
      exact ⟨rfl, rfl⟩

/-- A row with the first j bytes of a number from place o on. -/
def fourAt (bs : List UInt8) (o n : Nat) : Nat → List UInt8
  | 0 => bs
  | j + 1 => (fourAt bs o n j).set (o + j) (UInt8.ofNat (n / 256 ^ j % 256))
theorem fourAt_len (bs : List UInt8) (o n j : Nat) : (fourAt bs o n j).length = bs.length := by
  induction j with
  | zero => rfl
  | succ j ih => rw [fourAt, List.length_set, ih]

set_option maxRecDepth 100000 in
set_option maxHeartbeats 2000000 in
theorem putNumber_any {w0 w : World} {g N C : Nat} {bs : List UInt8} (h : Own w0 (.slice (some ⟨g, 0, none⟩) N C) bs w) (hl : bs.length = N) (o len cap S : Nat) (hS : S < 4294967296) (ho : o + 4 ≤ N) (hlen : 4 ≤ len) :
    Calls Try.prog 83 #[.slice (some ⟨g, o, none⟩) len cap, .int .u32 (S : Nat)] w fun e w' => e = .returned (.tuple #[]) ∧ Own w0 (.slice (some ⟨g, 0, none⟩) N C) (fourAt bs o S 4) w' := by
  have HO := hide h
  have HL := hide hl
  clear h hl
  go_enter Try.func83, Try.ntmps83
  go_wp2_with fail
  go_loopw [5] (fun i W => ∃ j : Nat, j ≤ 4 ∧ i = .int .i64 j ∧ Own w0 (.slice (some ⟨g, 0, none⟩) N C) (fourAt bs o S j) W) (fun i _ => 4 - (intOf i).toNat)
  case atStart => exact ⟨0, by omega, rfl, unhide HO⟩
  case round =>
    obtain ⟨j, hj, rfl, hO⟩ := hrel
    by_cases hlt : j < 4
    · obtain ⟨⟨x, hc⟩, hf, hp⟩ := hO.put ((fourAt_len bs o S j).trans (unhide HL)) (k := o + j) (by omega)
      have HP := hide hp
      clear hO hp
      rcases (show j = 0 ∨ j = 1 ∨ j = 2 ∨ j = 3 by omega) with rfl | rfl | rfl | rfl
      · rw [Nat.add_zero] at hc hf HP
        go_wp2_with fail
        have h2 := unhide HP (S / 256 ^ 0 % 256) (by omega)
        exact ⟨⟨1, by omega, rfl, by simpa [fourAt] using h2⟩, by simp [intOf]⟩
      · go_wp2_with fail
        have h2 := unhide HP (S / 256 ^ 1 % 256) (by omega)
        rw [show ((S / 256 ^ 1 % 256 : Nat) : Int) = (S : Int) / 256 % 256 by omega] at h2
        exact ⟨⟨2, by omega, rfl, h2⟩, by simp [intOf]⟩
      · go_wp2_with fail
        have h2 := unhide HP (S / 256 ^ 2 % 256) (by omega)
        rw [show ((S / 256 ^ 2 % 256 : Nat) : Int) = (S : Int) / 65536 % 256 by omega] at h2
        exact ⟨⟨3, by omega, rfl, h2⟩, by simp [intOf]⟩
      · go_wp2_with fail
        have h2 := unhide HP (S / 256 ^ 3 % 256) (by omega)
        rw [show ((S / 256 ^ 3 % 256 : Nat) : Int) = (S : Int) / 16777216 by omega] at h2
        exact ⟨⟨4, by omega, rfl, h2⟩, by simp [intOf]⟩
    · have e : j = 4 := by omega
      subst e
      go_wp2_with fail
      go_end0
      exact ⟨rfl, hO⟩

set_option maxHeartbeats 400000 in
theorem cloneR_any (u : Value) (bs : List UInt8) (w : World) (h : Bytes w u bs) (hl : bs.length ≤ 1048576) : Calls Try.prog 63 #[u] w fun e w' => ∃ a n c, e = .returned (.slice a n c) ∧ FreshO w w' (.slice a n c) bs := by
  rcases h with ⟨rfl, rfl⟩ | ⟨ad, c, rfl, h1, h2, h3⟩
  · have hq : ∀ W : World, (binOp .eql 49 (.slice none 0 0) (.slice none 0 0)).run Try.prog W = .ok (.bool true) W := fun W => run_eql_nil_slice W 49 5 none 0 0 0 0 Try.underlying49
    go_enter Try.func63, Try.ntmps63
    go_wp2
    go_ret
    exact ⟨none, 0, 0, rfl, ⟨.inl ⟨rfl, rfl⟩, fun k hk => (by cases hk), Below.refl _ w⟩, own_none _⟩
  · have h : Bytes w (.slice (some ad) bs.length c) bs := .inr ⟨ad, c, rfl, h1, h2, h3⟩
    obtain ⟨ti, hti, hz0, hz1, hz2⟩ := infoByte
    have HO := hide (own_nil w)
    have HU := hide (h.alloc (.cells #[] 5))
    have HL := hide hl
    generalize bs.length = n0 at *
    have hq : ∀ W : World, (binOp .eql 49 (.slice (some ad) n0 c) (.slice none 0 0)).run Try.prog W = .ok (.bool false) W := fun W => Lib.run_eql_slice_nil W 49 5 (some ad) n0 c 0 0 Try.underlying49
    clear h hl h1 h2 h3
    go_enter Try.func63, Try.ntmps63
    go_wp2_with (at_builtin; refine wpList_append_bytes _ rfl _ _ 49 rfl 5 ti (.int .u8 0) Try.underlying49 hti hz0 hz1 hz2 rfl _ [] rfl (unhide HO) _ bs rfl (unhide HU) (by have := unhide HL; have := (bytes_len (unhide HU)).1; simp only [List.length_nil]; omega) ?_)
    rintro v' w1 r1 r2 r3
    have r1 : w1.ownsRow 0 5 1 v' bs.length (bs.map bv) := by simpa using r1
    obtain ⟨hb, hv⟩ := grown_below ((Below.refl _ w).alloc (Nat.le_refl _) _) (fun k hk => by simp [Value.ownBlock] at hk; omega) r2 (r3.imp id fun ⟨k, e, hle⟩ => ⟨k, e, by simpa using hle⟩)
    have HF : Hid (FreshO w w1 v' bs) := ⟨⟨bytes_of_owns r1, fun k hk => ⟨hv k hk, (r1.lt k hk).2⟩, hb⟩, r1⟩
    clear r1 r2 r3 hb hv
    go_wp2
    go_ret
    obtain ⟨a', c', e', _⟩ := (unhide HF).1.1.form
    subst e'
    exact ⟨_, _, _, rfl, unhide HF⟩

/-- What toldLong answers. -/
def toldErr (b : List UInt8) : Int := if b.length < 9 then 32 else if 4096 < le ((b.drop 5).take 4) then 31 else if b.length < 9 + le ((b.drop 5).take 4) then 32 else 0
def toldLen (b : List UInt8) : Nat := if toldErr b = 0 then 9 + le ((b.drop 5).take 4) else 0

set_option maxHeartbeats 1000000 in
theorem toldLong_any (a : Option Addr) (n c : Nat) (b : List UInt8) (w : World) (h : Bytes w (.slice a n c) b) : Calls Try.prog 92 #[.slice a n c] w fun e w' => e = .returned (.tuple #[.int .i64 (toldLen b : Nat), .int .i64 (toldErr b)]) ∧ w' = w := by
  obtain ⟨hl, hnc⟩ := bytes_len h
  by_cases hn : n < 9
  · have e1 : toldErr b = 32 := by unfold toldErr; rw [if_pos (by omega)]
    have e2 : toldLen b = 0 := by unfold toldLen; rw [e1]; rfl
    rw [e1, e2]
    have g1 : (n : Int) < 9 := by omega
    clear h e1 e2 hl hn
    go_enter Try.func92, Try.ntmps92
    go_wp2_with fail
    go_ret2
    exact ⟨rfl, rfl⟩
  · have g1 : ¬ (n : Int) < 9 := by omega
    obtain ⟨s5, k5, B5, q5, q5'⟩ := slice_from (l := 5) h (by omega)
    replace q5 : ∀ W : World, (Instr.slice 49 (.slice a n c) (some (.int .i64 5)) none none).run Try.prog W = .ok (.slice s5 (n - 5) k5) W := fun W => q5 W
    replace q5' : ∀ W : World, (Instr.sliceAt 49 (.slice a n c) (some (.int .i64 5)) none none).run Try.prog W = .ok (.slice s5 (n - 5) k5) W := fun W => q5' W
    have H5 := hide B5
    have hm32 := le_take4_lt (b.drop 5)
    obtain ⟨m, hm⟩ : ∃ m, m = le ((b.drop 5).take 4) := ⟨_, rfl⟩
    have HM := hide hm
    have HN : Hid (4 ≤ n - 5) := by show 4 ≤ _; omega
    rw [← hm] at hm32
    by_cases h1 : 4096 < m
    · have e1 : toldErr b = 31 := by unfold toldErr; rw [if_neg (by omega), if_pos (by omega)]
      have e2 : toldLen b = 0 := by unfold toldLen; rw [e1]; rfl
      rw [e1, e2]
      have g2 : (m : Int) > 4096 := by omega
      clear h e1 e2 hl hn B5 hm
      go_enter Try.func92, Try.ntmps92
      go_wp2_with fail
      refine (number_any _ _ _ _ _ (unhide H5) (unhide HN)).mono ?_
      rintro e w' ⟨rfl, rfl⟩
      rw [← unhide HM]
      go_wp2_with fail
      go_ret2
      exact ⟨rfl, rfl⟩
    · have g2 : ¬ (m : Int) > 4096 := by omega
      have HLG : Hid ((if 0 ≤ (m : Int) ∧ (m : Int) ≤ 4096 then (m : Int) + 9 else 0) = ((9 + m : Nat) : Int)) := by show _ = _; rw [if_pos (by omega)]; omega
      by_cases h2 : n < 9 + m
      · have e1 : toldErr b = 32 := by unfold toldErr; rw [if_neg (by omega), if_neg (by omega), if_pos (by omega)]
        have e2 : toldLen b = 0 := by unfold toldLen; rw [e1]; rfl
        rw [e1, e2]
        obtain ⟨E, hE⟩ : ∃ E : Nat, E = 9 + m := ⟨_, rfl⟩
        rw [← hE] at HLG
        have g3 : (n : Int) < (E : Int) := by omega
        clear h e1 e2 hl hn B5 hm h1 hE
        go_enter Try.func92, Try.ntmps92
        go_wp2_with fail
        refine (number_any _ _ _ _ _ (unhide H5) (unhide HN)).mono ?_
        rintro e w' ⟨rfl, rfl⟩
        rw [← unhide HM]
        go_wp2_with fail
        refine (long_any _ _).mono ?_
        rintro e w' ⟨rfl, rfl⟩
        rw [unhide HLG]
        go_wp2_with fail
        go_ret2
        exact ⟨rfl, rfl⟩
      · have e1 : toldErr b = 0 := by unfold toldErr; rw [if_neg (by omega), if_neg (by omega), if_neg (by omega)]
        have e2 : toldLen b = 9 + m := by unfold toldLen; rw [if_pos e1, ← hm]
        rw [e1, e2]
        obtain ⟨E, hE⟩ : ∃ E : Nat, E = 9 + m := ⟨_, rfl⟩
        rw [← hE] at HLG ⊢
        have g3 : ¬ (n : Int) < (E : Int) := by omega
        clear h e1 e2 hl hn B5 hm h1 hE
        go_enter Try.func92, Try.ntmps92
        go_wp2_with fail
        refine (number_any _ _ _ _ _ (unhide H5) (unhide HN)).mono ?_
        rintro e w' ⟨rfl, rfl⟩
        rw [← unhide HM]
        go_wp2_with fail
        refine (long_any _ _).mono ?_
        rintro e w' ⟨rfl, rfl⟩
        rw [unhide HLG]
        go_wp2_with fail
        go_ret2
        exact ⟨rfl, rfl⟩
end Go.Proofs.Ytflfiobicapopaa
