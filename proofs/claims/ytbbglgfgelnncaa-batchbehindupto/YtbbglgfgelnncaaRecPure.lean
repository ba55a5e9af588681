/- Records one behind the other: all of them, cut anywhere, with a bit turned about. Our own definitions; no statement of the seat is proved here. -/
import Derived.Test.YtbbglgfgelnncaaRecMath
namespace Go.Proofs.Ytbbglgfgelnncaa

/-- What All answers: the records, how many bytes they take, the error or 0. -/
inductive AllIs : List UInt8 → List RecD → Nat → Int → Prop
  | none : AllIs [] [] 0 0
  | stop {b : List UInt8} (h : b ≠ []) (he : takeErr b ≠ 0) : AllIs b [] 0 (takeErr b)
  | more {b : List UInt8} {rs : List RecD} {n : Nat} {e : Int} (h : b ≠ []) (he : takeErr b = 0) (hr : AllIs (b.drop (takeLen b)) rs n e) : AllIs b (takeRec b :: rs) (takeLen b + n) e

theorem AllIs.same {b : List UInt8} {rs rs' : List RecD} {n n' : Nat} {e e' : Int} (h : AllIs b rs n e) (h' : AllIs b rs' n' e') : rs = rs' ∧ n = n' ∧ e = e' := by
  induction h generalizing rs' n' e' with
  | none =>
    cases h' with
    | none => exact ⟨rfl, rfl, rfl⟩
    | stop h _ => exact absurd rfl h
    | more h _ _ => exact absurd rfl h
  | stop h he =>
    cases h' with
    | none => exact absurd rfl h
    | stop _ _ => exact ⟨rfl, rfl, rfl⟩
    | more _ he' _ => exact absurd he' he
  | more h he _ ih =>
    cases h' with
    | none => exact absurd rfl h
    | stop _ he' => exact absurd he he'
    | more _ _ hr' =>
      obtain ⟨e1, e2, e3⟩ := ih hr'
      subst e1 e2 e3
      exact ⟨rfl, rfl, rfl⟩
theorem AllIs.few {b : List UInt8} {rs : List RecD} {n : Nat} {e : Int} (h : AllIs b rs n e) : rs.length ≤ b.length := by
  induction h with
  | none => exact Nat.le_refl _
  | stop h he => exact Nat.zero_le _
  | more h he hr ih =>
    have h1 := (put_take _ he).2.2.2.1
    have h2 := (put_take _ he).2.2.1
    rw [List.length_drop] at ih
    rw [List.length_cons]
    omega

/-- Records' bytes, one behind the other. -/
def puts (rs : List RecD) : List UInt8 := (rs.map RecD.put).flatten
theorem puts_append (rs ss : List RecD) : puts (rs ++ ss) = puts rs ++ puts ss := by unfold puts; rw [List.map_append, List.flatten_append]
theorem puts_one (r : RecD) : puts [r] = r.put := by simp [puts]
theorem puts_snoc (rs : List RecD) (r : RecD) : puts (rs ++ [r]) = puts rs ++ r.put := by rw [puts_append, puts_one]
/-- Where each of them ends. -/
def endsOf (rs : List RecD) : List Nat := (List.range rs.length).map fun j => (puts (rs.take (j + 1))).length
theorem ends_snoc (rs : List RecD) (r : RecD) : endsOf (rs ++ [r]) = endsOf rs ++ [(puts (rs ++ [r])).length] := by
  unfold endsOf
  rw [List.length_append, List.length_singleton, List.range_succ, List.map_append]
  congr 1
  · apply List.map_congr_left
    intro j hj
    have : j < rs.length := by simpa using hj
    rw [List.take_append_of_le_length (by omega)]
  · show [(puts ((rs ++ [r]).take (rs.length + 1))).length] = _
    rw [List.take_of_length_le (by simp)]
theorem ends_len (rs : List RecD) : (endsOf rs).length = rs.length := by simp [endsOf]
theorem take_snoc (rs : List RecD) {j : Nat} (hj : j < rs.length) : rs.take (j + 1) = rs.take j ++ [rs.getD j ⟨0, []⟩] := by
  rw [List.take_succ_eq_append_getElem hj, List.getD_eq_getElem?_getD, List.getElem?_eq_getElem hj]; rfl
theorem puts_len_take (rs : List RecD) (j : Nat) : (puts (rs.take j)).length ≤ (puts rs).length := by
  conv => rhs; rw [← List.take_append_drop j rs]
  rw [puts_append, List.length_append]
  omega

theorem AllIs.right {b : List UInt8} {rs : List RecD} {n : Nat} {e : Int} (h : AllIs b rs n e) : ∀ r ∈ rs, r.right := by
  induction h with
  | none => intro r hr; cases hr
  | stop h he => intro r hr; cases hr
  | more h he hr ih =>
    intro r hr
    rcases List.mem_cons.1 hr with rfl | hr
    · exact (put_take _ he).1
    · exact ih r hr
theorem AllIs.puts {b : List UInt8} {rs : List RecD} {n : Nat} {e : Int} (h : AllIs b rs n e) : puts rs = b.take n ∧ n ≤ b.length := by
  induction h with
  | none => exact ⟨rfl, Nat.le_refl _⟩
  | stop h he => exact ⟨by simp [Proofs.Ytbbglgfgelnncaa.puts], Nat.zero_le _⟩
  | @more b rs n e h he hr ih =>
    obtain ⟨h1, h2, h3, h4, h5⟩ := put_take _ he
    rw [List.length_drop] at ih
    refine ⟨?_, by omega⟩
    rw [List.take_add, ← h2, ← ih.1]
    show ((takeRec b :: rs).map RecD.put).flatten = _
    simp [Proofs.Ytbbglgfgelnncaa.puts]
theorem AllIs.done {b : List UInt8} {rs : List RecD} {n : Nat} {e : Int} (h : AllIs b rs n e) : e = 0 ↔ n = b.length := by
  induction h with
  | none => exact ⟨fun _ => rfl, fun _ => rfl⟩
  | stop h he => exact ⟨fun e => absurd e he, fun e => absurd (List.eq_nil_of_length_eq_zero e.symm) h⟩
  | more h he hr ih =>
    have h3 := (put_take _ he).2.2.1
    rw [List.length_drop] at ih
    rw [ih]
    omega
theorem AllIs.behind {b : List UInt8} : ∀ {rs : List RecD}, (∀ r ∈ rs, r.right) → ∀ {ss : List RecD} {n : Nat} {e : Int}, AllIs (Proofs.Ytbbglgfgelnncaa.puts rs ++ b) ss n e → ∃ ts m, ss = rs ++ ts ∧ AllIs b ts m e ∧ n = (Proofs.Ytbbglgfgelnncaa.puts rs).length + m
  | [], _, ss, n, e, h => ⟨ss, n, rfl, h, by simp [Proofs.Ytbbglgfgelnncaa.puts]⟩
  | r :: rs, hr, ss, n, e, h => by
    have hp : Proofs.Ytbbglgfgelnncaa.puts (r :: rs) ++ b = r.put ++ (Proofs.Ytbbglgfgelnncaa.puts rs ++ b) := by simp [Proofs.Ytbbglgfgelnncaa.puts]
    have hl : (Proofs.Ytbbglgfgelnncaa.puts (r :: rs)).length = r.put.length + (Proofs.Ytbbglgfgelnncaa.puts rs).length := by simp [Proofs.Ytbbglgfgelnncaa.puts]
    rw [hp] at h
    obtain ⟨t1, t2, t3⟩ := take_put r (hr r (List.mem_cons_self ..)) (Proofs.Ytbbglgfgelnncaa.puts rs ++ b)
    generalize hX : r.put ++ (Proofs.Ytbbglgfgelnncaa.puts rs ++ b) = X at *
    cases h with
    | none =>
      have := congrArg List.length hX
      rw [List.length_append, put_len] at this
      simp at this
    | stop h he => exact absurd t1 he
    | more h he h2 =>
      rw [t2, ← put_len, ← hX, List.drop_left] at h2
      obtain ⟨ts, m, h3, h4, h5⟩ := AllIs.behind (fun r' hr' => hr r' (List.mem_cons_of_mem _ hr')) h2
      exact ⟨ts, m, by rw [t3, h3]; rfl, h4, by rw [t2, hl, put_len]; omega⟩
theorem mem_getD {rs : List RecD} {i : Nat} (hi : i < rs.length) : rs.getD i ⟨0, []⟩ ∈ rs := by
  rw [List.getD_eq_getElem?_getD, List.getElem?_eq_getElem hi]
  exact List.getElem_mem hi

/-- How many bytes the first j records have. -/
def plen (rs : List RecD) (j : Nat) : Nat := (puts (rs.take j)).length
theorem plen_zero (rs : List RecD) : plen rs 0 = 0 := by simp [plen, puts]
theorem plen_all (rs : List RecD) : plen rs rs.length = (puts rs).length := by unfold plen; rw [List.take_length]
theorem plen_succ (rs : List RecD) {j : Nat} (hj : j < rs.length) : plen rs (j + 1) = plen rs j + (rs.getD j ⟨0, []⟩).put.length := by
  unfold plen
  rw [take_snoc rs hj, puts_snoc, List.length_append]
theorem plen_le (rs : List RecD) (j : Nat) : plen rs j ≤ (puts rs).length := by rw [← plen_all]; unfold plen; rw [List.take_length]; exact puts_len_take rs j
theorem plen_mono (rs : List RecD) : ∀ {i j : Nat}, i ≤ j → j ≤ rs.length → plen rs i ≤ plen rs j := by
  intro i j hij hj
  induction j with
  | zero =>
    have e : i = 0 := by omega
    rw [e]
    exact Nat.le_refl _
  | succ j ih =>
    by_cases e : i = j + 1
    · rw [e]; exact Nat.le_refl _
    · have := ih (by omega) (by omega)
      have := plen_succ rs (j := j) (by omega)
      omega

/-- How many records end at k, or ahead of it. -/
theorem split_at (rs : List RecD) (k : Nat) : ∃ t, t ≤ rs.length ∧ (∀ j, j ≤ t → plen rs j ≤ k) ∧ (∀ j, t < j → j ≤ rs.length → k < plen rs j) := by
  suffices h : ∀ n, n ≤ rs.length → ∃ t, t ≤ n ∧ (∀ j, j ≤ t → plen rs j ≤ k) ∧ (∀ j, t < j → j ≤ n → k < plen rs j) from h _ (Nat.le_refl _)
  intro n
  induction n with
  | zero =>
    intro _
    refine ⟨0, Nat.le_refl _, fun j hj => ?_, fun j h1 h2 => by omega⟩
    have e : j = 0 := by omega
    rw [e, plen_zero]
    exact Nat.zero_le _
  | succ n ih =>
    intro hn
    obtain ⟨t, ht, h1, h2⟩ := ih (by omega)
    by_cases hk : plen rs (n + 1) ≤ k
    · refine ⟨n + 1, Nat.le_refl _, fun j hj => Nat.le_trans (plen_mono rs hj hn) hk, fun j h3 h4 => by omega⟩
    · refine ⟨t, by omega, h1, fun j h3 h4 => ?_⟩
      by_cases e : j = n + 1
      · rw [e]; omega
      · exact h2 j h3 (by omega)

theorem take_cut (r : RecD) (hr : r.right) {j : Nat} (hj : j < r.put.length) : takeErr (r.put.take j) = 32 := by
  have hl : (r.put.take j).length = j := by rw [List.length_take]; omega
  have hp := put_len r
  unfold takeErr
  rw [hl]
  by_cases h9 : j < 9
  · rw [if_pos h9]
  · rw [if_neg h9]
    have e5 : ((r.put.take j).drop 5).take 4 = four r.d.length := by
      have e : ((r.put).drop 5).take 4 = four r.d.length := rfl
      rw [List.drop_take, List.take_take, Nat.min_eq_left (by omega), e]
    have hd : r.d.length < 4294967296 := by have := hr.2; omega
    have hd2 := hr.2
    rw [e5, le_four hd, if_neg (by omega), if_pos (by omega)]

theorem AllIs.nil {ss : List RecD} {m : Nat} {x : Int} (h : AllIs [] ss m x) : ss = [] ∧ m = 0 ∧ x = 0 := by
  cases h with
  | none => exact ⟨rfl, rfl, rfl⟩
  | stop h => exact absurd rfl h
  | more h => exact absurd rfl h
theorem AllIs.bad {b : List UInt8} {ss : List RecD} {m : Nat} {x : Int} (h : AllIs b ss m x) (hb : b ≠ []) (he : takeErr b ≠ 0) : ss = [] ∧ m = 0 ∧ x = takeErr b := by
  cases h with
  | none => exact absurd rfl hb
  | stop h => exact ⟨rfl, rfl, rfl⟩
  | more h h2 => exact absurd h2 he

theorem drop_one (rs : List RecD) {t : Nat} (ht : t < rs.length) : rs.drop t = rs.getD t ⟨0, []⟩ :: rs.drop (t + 1) := by
  rw [List.drop_eq_getElem_cons ht, List.getD_eq_getElem?_getD, List.getElem?_eq_getElem ht]; rfl
theorem puts_cons (r : RecD) (rs : List RecD) : puts (r :: rs) = r.put ++ puts rs := by simp [puts]
theorem puts_split (rs : List RecD) (t : Nat) : puts rs = puts (rs.take t) ++ puts (rs.drop t) := by rw [← puts_append, List.take_append_drop]

/-- Cut anywhere. -/
theorem cut_all (rs : List RecD) (hr : ∀ r ∈ rs, r.right) {k t : Nat} (hk : k ≤ (puts rs).length) (ht : t ≤ rs.length) (h1 : plen rs t ≤ k) (h2 : t < rs.length → k < plen rs (t + 1)) {ss : List RecD} {m : Nat} {x : Int} (h : AllIs ((puts rs).take k) ss m x) :
    ss = rs.take t ∧ m = plen rs t ∧ ((x = 0 ∧ plen rs t = k) ∨ (x = 32 ∧ ¬ plen rs t = k)) := by
  have hrt : ∀ r ∈ rs.take t, r.right := fun r h => hr r (List.mem_of_mem_take h)
  have e : (puts rs).take k = puts (rs.take t) ++ (puts (rs.drop t)).take (k - plen rs t) := by
    rw [puts_split rs t, List.take_append]
    congr 1
    exact List.take_of_length_le h1
  rw [e] at h
  obtain ⟨ts, m', e1, hA, e2⟩ := AllIs.behind hrt h
  have em : m = plen rs t + m' := e2
  by_cases htl : t < rs.length
  · have hk2 := h2 htl
    rw [plen_succ rs htl] at hk2
    have hri := hr _ (mem_getD htl)
    rw [drop_one rs htl, puts_cons, List.take_append_of_le_length (by omega)] at hA
    generalize rs.getD t ⟨0, []⟩ = r at *
    by_cases hz : k - plen rs t = 0
    · rw [hz, List.take_zero] at hA
      obtain ⟨rfl, rfl, rfl⟩ := hA.nil
      exact ⟨by rw [e1, List.append_nil], by omega, .inl ⟨rfl, by omega⟩⟩
    · have hc := take_cut r hri (j := k - plen rs t) (by omega)
      obtain ⟨rfl, rfl, e3⟩ := hA.bad (fun e => by have := congrArg List.length e; rw [List.length_take, List.length_nil] at this; omega) (by rw [hc]; decide)
      exact ⟨by rw [e1, List.append_nil], by omega, .inr ⟨e3.trans hc, by omega⟩⟩
  · have et : t = rs.length := by omega
    subst et
    rw [List.drop_length, show puts ([] : List RecD) = [] from rfl, List.take_nil] at hA
    obtain ⟨rfl, rfl, rfl⟩ := hA.nil
    have := plen_all rs
    exact ⟨by rw [e1, List.append_nil], by omega, .inl ⟨rfl, by omega⟩⟩

/-- A bit of a row's byte turned about turns its sum. -/
theorem sum_turned (xs : List UInt8) (i : Nat) (v : UInt8) (hi : i < xs.length) (hv : v ≠ 0) : sumB (xs.set i (xs[i] ^^^ v)) ≠ sumB xs := by
  intro h
  have h1 := (sum_eq_iff (xs.set i (xs[i] ^^^ v)) xs (by rw [List.length_set])).1 h
  rw [le_set xs i v hi, List.length_set, Nat.xor_comm (le xs), Nat.xor_assoc, Nat.xor_self, Nat.xor_zero] at h1
  have h2 := (burst (n := xs.length) (m := i) (E := v.toNat) (by omega) (by have := v.toNat_lt; omega)).1 h1
  exact hv (UInt8.toNat_inj.1 h2)

theorem rest_drop (r : RecD) : r.put.drop 4 = r.rest := rfl
theorem xor_ne (x v : UInt8) (hv : v ≠ 0) : x ^^^ v ≠ x := by
  intro h
  apply hv
  have h1 : x ^^^ (x ^^^ v) = x ^^^ x := by rw [h]
  rwa [← UInt8.xor_assoc, UInt8.xor_self, UInt8.zero_xor] at h1

/-- A record with a bit turned about, but not of its length, is none. -/
theorem turned_none (r : RecD) (hr : r.right) (more : List UInt8) (v : UInt8) (hv : v ≠ 0) {j : Nat} (hj : j < r.put.length) (hn : ¬ (5 ≤ j ∧ j < 9)) : takeErr (r.put.set j (r.put[j] ^^^ v) ++ more) ≠ 0 := by
  have hp := put_len r
  generalize hX : r.put.set j (r.put[j] ^^^ v) = X
  have hXl : X.length = 9 + r.d.length := by rw [← hX, List.length_set]; exact hp
  have hd : r.d.length < 4294967296 := by have := hr.2; omega
  have hd2 := hr.2
  have e5 : ((X ++ more).drop 5).take 4 = four r.d.length := by
    rw [List.drop_append_of_le_length (by omega), List.take_append_of_le_length (by rw [List.length_drop]; omega), ← hX]
    have e : ((r.put).drop 5).take 4 = four r.d.length := rfl
    rw [List.drop_set]
    by_cases h5 : j < 5
    · rw [if_pos h5]; exact e
    · rw [if_neg h5, List.take_set, List.set_eq_of_length_le (by rw [List.length_take, List.length_drop]; omega)]; exact e
  have es : ((X ++ more).drop 4).take (5 + r.d.length) = X.drop 4 := by
    rw [List.drop_append_of_le_length (by omega), List.take_append_of_le_length (by rw [List.length_drop]; omega), List.take_of_length_le (by rw [List.length_drop]; omega)]
  have e4 : (X ++ more).take 4 = X.take 4 := List.take_append_of_le_length (by omega)
  unfold takeErr
  rw [e5, le_four hd, es, e4, List.length_append]
  rw [if_neg (by omega), if_neg (by omega), if_neg (by omega)]
  have hne : sumB (X.drop 4) ≠ le (X.take 4) := by
    by_cases h4 : j < 4
    · have hd4 : X.drop 4 = r.rest := by rw [← hX, List.drop_set, if_pos h4]; rfl
      have ht4 : X.take 4 = (four (sumB r.rest)).set j ((four (sumB r.rest))[j]'(by rw [four_len]; exact h4) ^^^ v) := by
        rw [← hX, List.take_set]
        have e : r.put.take 4 = four (sumB r.rest) := rfl
        have e' : r.put[j] = (four (sumB r.rest))[j]'(by rw [four_len]; exact h4) := by
          have : r.put = four (sumB r.rest) ++ r.rest := rfl
          simp only [this]
          rw [List.getElem_append_left]
        rw [e, e']
      rw [hd4, ht4]
      intro h
      have h2 : le (four (sumB r.rest)) = le ((four (sumB r.rest)).set j ((four (sumB r.rest))[j]'(by rw [four_len]; exact h4) ^^^ v)) := by rw [le_four (sum_lt _)]; exact h
      have h3 := le_inj _ _ (by rw [List.length_set]) h2
      have h4' : (four (sumB r.rest))[j]'(by rw [four_len]; exact h4) = ((four (sumB r.rest)).set j ((four (sumB r.rest))[j]'(by rw [four_len]; exact h4) ^^^ v))[j]'(by rw [List.length_set, four_len]; exact h4) := by
        simp only [← h3]
      rw [List.getElem_set_self] at h4'
      exact xor_ne _ v hv h4'.symm
    · have ht4 : X.take 4 = four (sumB r.rest) := by
        rw [← hX, List.take_set, List.set_eq_of_length_le (by rw [List.length_take]; omega)]; rfl
      have hjl : j - 4 < r.rest.length := by rw [rest_len]; omega
      have hd4 : X.drop 4 = r.rest.set (j - 4) (r.rest[j - 4] ^^^ v) := by
        rw [← hX, List.drop_set, if_neg h4]
        have e : r.put.drop 4 = r.rest := rfl
        have e' : r.put[j] = r.rest[j - 4] := by
          have h5 : r.put = four (sumB r.rest) ++ r.rest := rfl
          simp only [h5]
          rw [List.getElem_append_right (by rw [four_len]; omega)]
          simp only [four_len]
        rw [e, e']
      rw [ht4, hd4, le_four (sum_lt _)]
      exact sum_turned _ _ v hjl hv
  rw [if_pos hne]
  decide

/-- A bit turned about. -/
theorem turned_all (rs : List RecD) (hr : ∀ r ∈ rs, r.right) {k t : Nat} (ht : t < rs.length) (h1 : plen rs t ≤ k) (h2 : k < plen rs (t + 1)) (hn : ¬ (5 ≤ k - plen rs t ∧ k - plen rs t < 9)) (v : UInt8) (hv : v ≠ 0) (hk : k < (puts rs).length) {ss : List RecD} {m : Nat} {x : Int}
    (h : AllIs ((puts rs).set k ((puts rs)[k] ^^^ v)) ss m x) : ss = rs.take t ∧ x ≠ 0 := by
  have hrt : ∀ r ∈ rs.take t, r.right := fun r h => hr r (List.mem_of_mem_take h)
  rw [plen_succ rs ht] at h2
  have hri := hr _ (mem_getD ht)
  have hsp : puts rs = puts (rs.take t) ++ ((rs.getD t ⟨0, []⟩).put ++ puts (rs.drop (t + 1))) := by rw [← puts_cons, ← drop_one rs ht, ← puts_split]
  generalize rs.getD t ⟨0, []⟩ = r at *
  have hjl : k - plen rs t < r.put.length := by omega
  have hge : (puts rs)[k] = r.put[k - plen rs t] := by
    simp only [hsp]
    rw [List.getElem_append_right (by exact h1), List.getElem_append_left (by exact hjl)]
    rfl
  have e : (puts rs).set k ((puts rs)[k] ^^^ v) = puts (rs.take t) ++ (r.put.set (k - plen rs t) (r.put[k - plen rs t] ^^^ v) ++ puts (rs.drop (t + 1))) := by
    rw [hge]
    conv => lhs; rw [hsp]
    rw [List.set_append_right _ _ (by exact h1), List.set_append_left _ _ (by exact hjl)]
    rfl
  rw [e] at h
  obtain ⟨ts, m', e1, hA, e2⟩ := AllIs.behind hrt h
  have hT := turned_none r hri (puts (rs.drop (t + 1))) v hv hjl hn
  obtain ⟨rfl, _, e3⟩ := hA.bad (fun e => by have := congrArg List.length e; rw [List.length_append, List.length_set, put_len] at this; simp at this) hT
  exact ⟨by rw [e1, List.append_nil], by rw [e3]; exact hT⟩
end Go.Proofs.Ytbbglgfgelnncaa
