/- Rows of bytes and rows of such rows in memory, and what the statements' own helpers (foremanlow) do with them. No statement of the seat is proved here. -/
import Derived.Test.YtbbglgfgelnncaaLowA
import Derived.Test.YtbbglgfgelnncaaQuietB
namespace Go.Proofs.Ytbbglgfgelnncaa
open Go.RowKit

/-- A slice of one-cell things. -/
def ListAt {α : Type} (E : World → Value → α → Prop) (w : World) (u : Value) (xs : List α) : Prop := ((∃ a c, u = .slice a 0 c) ∧ xs = []) ∨ ∃ b o c, u = .slice (some ⟨b, o, none⟩) xs.length c ∧ xs.length ≤ c ∧
  ∀ i x, xs[i]? = some x → ∃ v, w.cell? ⟨b, o + i, none⟩ = some v ∧ E w v x
theorem ListAt.form {α : Type} {E : World → Value → α → Prop} {w : World} {u : Value} {xs : List α} (h : ListAt E w u xs) : ∃ a c, u = .slice a xs.length c ∧ xs.length ≤ c := by
  rcases h with ⟨⟨a, c, rfl⟩, rfl⟩ | ⟨b, o, c, rfl, hl, _⟩
  · exact ⟨_, _, rfl, Nat.zero_le _⟩
  · exact ⟨_, _, rfl, hl⟩
theorem ListAt.at {α : Type} {E : World → Value → α → Prop} {w : World} {a : Option Addr} {n c : Nat} {xs : List α} (h : ListAt E w (.slice a n c) xs) {i : Nat} {x : α} (hx : xs[i]? = some x) : ∃ b o v, a = some ⟨b, o, none⟩ ∧ w.cell? ⟨b, o + i, none⟩ = some v ∧ E w v x := by
  rcases h with ⟨_, rfl⟩ | ⟨b, o, c', hv, _, hr⟩
  · cases hx
  · simp only [Value.slice.injEq] at hv
    obtain ⟨rfl, _, rfl⟩ := hv
    obtain ⟨v, h1, h2⟩ := hr i x hx
    exact ⟨b, o, v, rfl, h1, h2⟩
theorem ListAt.later {α : Type} {E : World → Value → α → Prop} (hE : ∀ {w w' : World} {v : Value} {x : α}, E w v x → Below w.heap.size w w' → E w' v x) {w w' : World} {u : Value} {xs : List α} (h : ListAt E w u xs) (hb : Below w.heap.size w w') : ListAt E w' u xs := by
  rcases h with h | ⟨b, o, c, hv, hl, hr⟩
  · exact .inl h
  · refine .inr ⟨b, o, c, hv, hl, fun i x hx => ?_⟩
    obtain ⟨v, h1, h2⟩ := hr i x hx
    exact ⟨v, (hb.cell (p := ⟨b, o + i, none⟩) (World.block_lt_of_cell? _ _ h1)).trans h1, hE h2 hb⟩

/-- Rows of bytes. -/
def RowsAt : World → Value → List (List UInt8) → Prop := ListAt Bytes
/-- Rows of rows of bytes. -/
def BatchesAt : World → Value → List (List (List UInt8)) → Prop := ListAt RowsAt
theorem Bytes.later {w w' : World} {u : Value} {bs : List UInt8} (h : Bytes w u bs) (hb : Below w.heap.size w w') : Bytes w' u bs := h.kept fun k _ hk => hb.block k hk
theorem RowsAt.later {w w' : World} {u : Value} {xs : List (List UInt8)} (h : RowsAt w u xs) (hb : Below w.heap.size w w') : RowsAt w' u xs := ListAt.later (E := Bytes) (fun h hb => Bytes.later h hb) h hb
theorem BatchesAt.later {w w' : World} {u : Value} {xs : List (List (List UInt8))} (h : BatchesAt w u xs) (hb : Below w.heap.size w w') : BatchesAt w' u xs := ListAt.later (E := RowsAt) (fun h hb => RowsAt.later h hb) h hb
theorem RowsAt.form {w : World} {u : Value} {xs : List (List UInt8)} (h : RowsAt w u xs) : ∃ a c, u = .slice a xs.length c ∧ xs.length ≤ c := ListAt.form h
theorem BatchesAt.form {w : World} {u : Value} {xs : List (List (List UInt8))} (h : BatchesAt w u xs) : ∃ a c, u = .slice a xs.length c ∧ xs.length ≤ c := ListAt.form h

theorem list_ext {α : Type} {xs ys : List α} (hl : xs.length = ys.length) (h : ∀ (t : Nat) (x y : α), xs[t]? = some x → ys[t]? = some y → x = y) : xs = ys := by
  apply List.ext_getElem hl
  intro t h1 h2
  exact h t _ _ (List.getElem?_eq_getElem h1) (List.getElem?_eq_getElem h2)
theorem some_get {α : Type} {xs : List α} {j : Nat} (h : j < xs.length) : ∃ x, xs[j]? = some x := ⟨xs[j], List.getElem?_eq_getElem h⟩

set_option maxRecDepth 100000 in
set_option maxHeartbeats 2000000 in
theorem low_sameRows (u1 u2 : Value) (xs ys : List (List UInt8)) (w : World) (h1 : RowsAt w u1 xs) (h2 : RowsAt w u2 ys) (hl1 : xs.length ≤ 140737488355328) :
    Calls Try.prog 19 #[u1, u2] w fun e w' => e = .returned (.bool (decide (xs = ys))) ∧ Below w.heap.size w w' := by
  obtain ⟨a1, c1, rfl, _⟩ := h1.form
  obtain ⟨a2, c2, rfl, _⟩ := h2.form
  obtain ⟨n1, hn1⟩ : ∃ n1, n1 = xs.length := ⟨_, rfl⟩
  obtain ⟨n2, hn2⟩ : ∃ n2, n2 = ys.length := ⟨_, rfl⟩
  rw [← hn1] at h1 hl1 ⊢
  rw [← hn2] at h2 ⊢
  have H1 := hide h1
  have H2 := hide h2
  have L1 := hide hn1
  have L2 := hide hn2
  clear h1 h2 hn1 hn2
  by_cases hne : n1 = n2
  · subst hne
    go_enter Try.func19, Try.ntmps19
    go_wp2_with fail
    go_loopw [13] (fun i W => ∃ j : Nat, j ≤ n1 ∧ i = .int .i64 j ∧ (∀ t x y, t < j → xs[t]? = some x → ys[t]? = some y → x = y) ∧ Below w.heap.size w W) (fun i _ => n1 - (intOf i).toNat)
    case atStart => exact ⟨0, Nat.zero_le _, rfl, fun t x y ht => by omega, Below.refl _ w⟩
    case round =>
      obtain ⟨j, hj, rfl, hsm, hB⟩ := hrel
      have HS := hide hsm
      have HB := hide hB
      clear hsm hB
      by_cases hlt : j < n1
      · obtain ⟨x, hx⟩ := some_get (xs := xs) (j := j) (by have := unhide L1; omega)
        obtain ⟨y, hy⟩ := some_get (xs := ys) (j := j) (by have := unhide L2; omega)
        obtain ⟨b1, o1, v1, e1, x1, x3⟩ := ((unhide H1).later (unhide HB)).at hx
        obtain ⟨b2, o2, v2, e2, z1, z3⟩ := ((unhide H2).later (unhide HB)).at hy
        subst e1 e2
        obtain ⟨d1, k1, ed1, _⟩ := x3.form
        obtain ⟨d2, k2, ed2, _⟩ := z3.form
        subst ed1 ed2
        have i0 : (0 : Int) ≤ (j : Int) := by omega
        have i1 : (j : Int) < (n1 : Int) := by omega
        have X3 := hide x3
        have Z3 := hide z3
        have HX := hide hx
        have HY := hide hy
        have lx1 := Later.cell x1
        have lz1 := Later.cell z1
        clear x3 z3 hx hy x1 z1
        generalize x.length = nx at *
        generalize y.length = ny at *
        go_upto_region 6 with fail
        have hne : Nonempty (Later wr) := ⟨⟨wr, Below.refl _ _⟩⟩
        refine wp_region_later (by kernel_rfl) ?_
        repeat (go_big_quiet_step ((rename_i q; go_at_call 14; refine (low_same _ _ x y _ (Later.bytes (unhide X3) q) (Later.bytes (unhide Z3) q)).mono ?_; rintro e w2 ⟨rfl, hw⟩; exact ⟨rfl, q.same hw⟩)))
        refine wpQuiet_nil ?_
        rintro _ ⟨q, rfl⟩
        have HB2 : Hid (Below w.heap.size w q.1) := (unhide HB).trans (q.2.mono (unhide HB).size)
        generalize q.1 = W2 at *
        by_cases he : x = y
        · have hd : decide (x = y) = true := decide_eq_true he
          have HE := hide he
          rw [hd]
          clear hd he
          go_wp2_with fail
          exact ⟨⟨j + 1, by omega, by go_num, fun t x' y' ht h1 h2 => by
            by_cases e : t = j
            · rw [e, unhide HX] at h1; rw [e, unhide HY] at h2; cases h1; cases h2; exact unhide HE
            · exact unhide HS t x' y' (by omega) h1 h2, unhide HB2⟩, by simp [intOf]; omega⟩
        · have hd : decide (x = y) = false := decide_eq_false he
          have HNE : Hid (decide (xs = ys) = false) := decide_eq_false fun e => he (by have h1 := unhide HX; have h2 := unhide HY; rw [e, h2] at h1; cases h1; rfl)
          rw [hd]
          clear hd he
          go_wp2_with fail
          go_ret
          exact ⟨by rw [unhide HNE]; rfl, unhide HB2⟩
      · have HEQ : Hid (decide (xs = ys) = true) := decide_eq_true (list_ext (by rw [← unhide L1, ← unhide L2]) fun t x y h1 h2 => unhide HS t x y (by have := (List.getElem?_eq_some_iff.1 h1).1; have := unhide L1; omega) h1 h2)
        go_wp2_with fail
        go_ret
        exact ⟨by rw [unhide HEQ]; rfl, unhide HB⟩
  · have hne1 : ¬ (n1 : Int) = (n2 : Int) := by omega
    have HNE : Hid (decide (xs = ys) = false) := decide_eq_false fun e => hne (by rw [unhide L1, unhide L2, e])
    go_enter Try.func19, Try.ntmps19
    go_wp2_with fail
    go_ret
    exact ⟨by rw [unhide HNE]; rfl, Below.refl _ w⟩

set_option maxRecDepth 100000 in
set_option maxHeartbeats 2000000 in
theorem low_sameBatches (u1 u2 : Value) (xs ys : List (List (List UInt8))) (w : World) (h1 : BatchesAt w u1 xs) (h2 : BatchesAt w u2 ys) (hl1 : xs.length ≤ 140737488355328) (hl2 : ∀ x ∈ xs, x.length ≤ 140737488355328) :
    Calls Try.prog 18 #[u1, u2] w fun e w' => e = .returned (.bool (decide (xs = ys))) ∧ Below w.heap.size w w' := by
  obtain ⟨a1, c1, rfl, _⟩ := h1.form
  obtain ⟨a2, c2, rfl, _⟩ := h2.form
  obtain ⟨n1, hn1⟩ : ∃ n1, n1 = xs.length := ⟨_, rfl⟩
  obtain ⟨n2, hn2⟩ : ∃ n2, n2 = ys.length := ⟨_, rfl⟩
  rw [← hn1] at h1 hl1 ⊢
  rw [← hn2] at h2 ⊢
  have H1 := hide h1
  have H2 := hide h2
  have HLL := hide hl2
  have L1 := hide hn1
  have L2 := hide hn2
  clear h1 h2 hn1 hn2 hl2
  by_cases hne : n1 = n2
  · subst hne
    go_enter Try.func18, Try.ntmps18
    go_wp2_with fail
    go_loopw [13] (fun i W => ∃ j : Nat, j ≤ n1 ∧ i = .int .i64 j ∧ (∀ t x y, t < j → xs[t]? = some x → ys[t]? = some y → x = y) ∧ Below w.heap.size w W) (fun i _ => n1 - (intOf i).toNat)
    case atStart => exact ⟨0, Nat.zero_le _, rfl, fun t x y ht => by omega, Below.refl _ w⟩
    case round =>
      obtain ⟨j, hj, rfl, hsm, hB⟩ := hrel
      have HS := hide hsm
      have HB := hide hB
      clear hsm hB
      by_cases hlt : j < n1
      · obtain ⟨x, hx⟩ := some_get (xs := xs) (j := j) (by have := unhide L1; omega)
        obtain ⟨y, hy⟩ := some_get (xs := ys) (j := j) (by have := unhide L2; omega)
        obtain ⟨b1, o1, v1, e1, x1, x3⟩ := ((unhide H1).later (unhide HB)).at hx
        obtain ⟨b2, o2, v2, e2, z1, z3⟩ := ((unhide H2).later (unhide HB)).at hy
        subst e1 e2
        obtain ⟨d1, k1, ed1, _⟩ := x3.form
        obtain ⟨d2, k2, ed2, _⟩ := z3.form
        subst ed1 ed2
        have i0 : (0 : Int) ≤ (j : Int) := by omega
        have i1 : (j : Int) < (n1 : Int) := by omega
        have X3 := hide x3
        have Z3 := hide z3
        have HX := hide hx
        have HL2 := hide (unhide HLL x (List.mem_of_getElem? hx))
        have HY := hide hy
        have lx1 := Later.cell x1
        have lz1 := Later.cell z1
        clear x3 z3 hx hy x1 z1
        obtain ⟨nx, hnx⟩ : ∃ nx, nx = x.length := ⟨_, rfl⟩
        obtain ⟨ny, hny⟩ : ∃ ny, ny = y.length := ⟨_, rfl⟩
        rw [← hnx] at X3 lx1
        rw [← hny] at Z3 lz1
        clear hnx hny
        go_upto_region 6 with fail
        have hne : Nonempty (Later wr) := ⟨⟨wr, Below.refl _ _⟩⟩
        refine wp_region_later (by kernel_rfl) ?_
        repeat (go_big_quiet_step ((rename_i q; go_at_call 19; refine (low_sameRows _ _ x y _ (RowsAt.later (unhide X3) q.2) (RowsAt.later (unhide Z3) q.2) (unhide HL2)).mono ?_; rintro e w2 ⟨rfl, hb⟩; exact ⟨rfl, q.then hb⟩)))
        refine wpQuiet_nil ?_
        rintro _ ⟨q, rfl⟩
        have HB2 : Hid (Below w.heap.size w q.1) := (unhide HB).trans (q.2.mono (unhide HB).size)
        generalize q.1 = W2 at *
        by_cases he : x = y
        · have hd : decide (x = y) = true := decide_eq_true he
          have HE := hide he
          rw [hd]
          clear hd he
          go_wp2_with fail
          exact ⟨⟨j + 1, by omega, by go_num, fun t x' y' ht h1 h2 => by
            by_cases e : t = j
            · rw [e, unhide HX] at h1; rw [e, unhide HY] at h2; cases h1; cases h2; exact unhide HE
            · exact unhide HS t x' y' (by omega) h1 h2, unhide HB2⟩, by simp [intOf]; omega⟩
        · have hd : decide (x = y) = false := decide_eq_false he
          have HNE : Hid (decide (xs = ys) = false) := decide_eq_false fun e => he (by have h1 := unhide HX; have h2 := unhide HY; rw [e, h2] at h1; cases h1; rfl)
          rw [hd]
          clear hd he
          go_wp2_with fail
          go_ret
          exact ⟨by rw [unhide HNE]; rfl, unhide HB2⟩
      · have HEQ : Hid (decide (xs = ys) = true) := decide_eq_true (list_ext (by rw [← unhide L1, ← unhide L2]) fun t x y h1 h2 => unhide HS t x y (by have := (List.getElem?_eq_some_iff.1 h1).1; have := unhide L1; omega) h1 h2)
        go_wp2_with fail
        go_ret
        exact ⟨by rw [unhide HEQ]; rfl, unhide HB⟩
  · have hne1 : ¬ (n1 : Int) = (n2 : Int) := by omega
    have HNE : Hid (decide (xs = ys) = false) := decide_eq_false fun e => hne (by rw [unhide L1, unhide L2, e])
    go_enter Try.func18, Try.ntmps18
    go_wp2_with fail
    go_ret
    exact ⟨by rw [unhide HNE]; rfl, Below.refl _ w⟩

/-- How many bytes there are in rows. -/
def total : List (List UInt8) → Nat
  | [] => 0
  | r :: rs => r.length + total rs
theorem total_append (xs ys : List (List UInt8)) : total (xs ++ ys) = total xs + total ys := by
  induction xs with
  | nil => simp [total]
  | cons x xs ih => simp only [List.cons_append, total, ih]; omega
theorem total_take (xs : List (List UInt8)) {j : Nat} {x : List UInt8} (hx : xs[j]? = some x) : total (xs.take (j + 1)) = total (xs.take j) + x.length := by
  obtain ⟨hj, rfl⟩ := List.getElem?_eq_some_iff.1 hx
  rw [List.take_succ_eq_append_getElem hj, total_append]
  simp [total]
theorem total_mem {xs : List (List UInt8)} {x : List UInt8} (h : x ∈ xs) : x.length ≤ total xs := by
  induction xs with
  | nil => cases h
  | cons y ys ih =>
    simp only [total]
    rcases List.mem_cons.1 h with e | e
    · rw [e]; omega
    · have := ih e; omega
theorem wrap_add (a b : Int) : wrap64 (wrap64 a + b) = wrap64 (a + b) := by unfold wrap64; omega

set_option maxRecDepth 100000 in
set_option maxHeartbeats 2000000 in
theorem low_bytes (u : Value) (xs : List (List UInt8)) (w : World) (h : RowsAt w u xs) (hl : xs.length ≤ 140737488355328) : Calls Try.prog 9 #[u] w fun e w' => e = .returned (.int .i64 (wrap64 ((total xs : Nat) : Int))) ∧ w' = w := by
  obtain ⟨a, c, rfl, _⟩ := h.form
  obtain ⟨n, hn⟩ : ∃ n, n = xs.length := ⟨_, rfl⟩
  rw [← hn] at h hl ⊢
  have HH := hide h
  have HN := hide hn
  clear h hn
  go_enter Try.func9, Try.ntmps9
  go_wp2_with fail
  go_loopw [3, 8] (fun s i W => ∃ j : Nat, j ≤ n ∧ i = .int .i64 j ∧ s = .int .i64 (wrap64 ((total (xs.take j) : Nat) : Int)) ∧ W = w) (fun _ i _ => n - (intOf i).toNat)
  case atStart => exact ⟨0, Nat.zero_le _, rfl, by simp [total, wrap64], rfl⟩
  case round =>
    obtain ⟨j, hj, rfl, rfl, rfl⟩ := hrel
    by_cases hlt : j < n
    · obtain ⟨x, hx⟩ := some_get (xs := xs) (j := j) (by have := unhide HN; omega)
      obtain ⟨b1, o1, v1, e1, x1, x3⟩ := (unhide HH).at hx
      subst e1
      obtain ⟨d1, k1, ed1, _⟩ := x3.form
      subst ed1
      have i1 : (j : Int) < (n : Int) := by omega
      have HTT := hide (total_take xs hx)
      have HWA := hide (wrap_add ((total (xs.take j) : Nat) : Int) ((x.length : Nat) : Int))
      clear x3 hx
      generalize total (xs.take j) = t0 at *
      generalize x.length = nx at *
      generalize wrap64 ((t0 : Nat) : Int) = s0 at *
      go_wp2_with fail
      exact ⟨⟨j + 1, by omega, by go_num, by rw [unhide HTT, unhide HWA]; push_cast; rfl, by trivial⟩, by simp [intOf]; omega⟩
    · have e : n = j := by omega
      subst e
      have HT : Hid (xs.take n = xs) := List.take_of_length_le (by have := unhide HN; omega)
      rw [unhide HT]
      go_wp2_with fail
      go_ret
      exact ⟨rfl, rfl⟩

/-- How many rows and bytes there are in batches. -/
def weight : List (List (List UInt8)) → Nat
  | [] => 0
  | r :: rs => r.length + total r + weight rs
theorem weight_append (xs ys : List (List (List UInt8))) : weight (xs ++ ys) = weight xs + weight ys := by
  induction xs with
  | nil => simp [weight]
  | cons x xs ih => simp only [List.cons_append, weight, ih]; omega
theorem weight_take (xs : List (List (List UInt8))) {j : Nat} {x : List (List UInt8)} (hx : xs[j]? = some x) : weight (xs.take (j + 1)) = weight (xs.take j) + (x.length + total x) := by
  obtain ⟨hj, rfl⟩ := List.getElem?_eq_some_iff.1 hx
  rw [List.take_succ_eq_append_getElem hj, weight_append]
  simp [weight]
theorem weight_mem {xs : List (List (List UInt8))} {x : List (List UInt8)} (h : x ∈ xs) : x.length + total x ≤ weight xs := by
  induction xs with
  | nil => cases h
  | cons y ys ih =>
    simp only [weight]
    rcases List.mem_cons.1 h with e | e
    · rw [e]; omega
    · have := ih e; omega
theorem weight_le (xs : List (List (List UInt8))) (j : Nat) : weight (xs.take j) ≤ weight xs := by
  conv => rhs; rw [← List.take_append_drop j xs]
  rw [weight_append]
  omega
theorem wrap_in {n : Nat} (h : n ≤ 1152921504606846976) : wrap64 ((n : Nat) : Int) = ((n : Nat) : Int) := by unfold wrap64; omega
/-- What Few answers. -/
def FewAt (xs : List (List (List UInt8))) (e : Ending) : Prop := ∃ b : Bool, e = .returned (.bool b) ∧ (b = true ↔ (xs.length ≤ 20 ∧ weight xs ≤ 3000))

set_option maxRecDepth 100000 in
set_option maxHeartbeats 2000000 in
theorem low_few (u : Value) (xs : List (List (List UInt8))) (w : World) (h : BatchesAt w u xs) (hl : xs.length ≤ 140737488355328) (hw : weight xs ≤ 1152921504606846976) (hr : ∀ x ∈ xs, x.length ≤ 140737488355328) : Calls Try.prog 23 #[u] w fun e w' => FewAt xs e ∧ w' = w := by
  obtain ⟨a, c, rfl, _⟩ := h.form
  obtain ⟨n, hn⟩ : ∃ n, n = xs.length := ⟨_, rfl⟩
  rw [← hn] at h hl ⊢
  have HH := hide h
  have HN := hide hn
  have HW := hide hw
  have HR := hide hr
  clear h hn hw hr
  go_enter Try.func23, Try.ntmps23
  go_wp2_with fail
  go_loopw [3, 8] (fun s i W => ∃ j : Nat, j ≤ n ∧ i = .int .i64 j ∧ s = .int .i64 ((weight (xs.take j) : Nat) : Int) ∧ W = w) (fun _ i _ => n - (intOf i).toNat)
  case atStart => exact ⟨0, Nat.zero_le _, rfl, by simp [weight], rfl⟩
  case round =>
    obtain ⟨j, hj, rfl, rfl, rfl⟩ := hrel
    by_cases hlt : j < n
    · obtain ⟨x, hx⟩ := some_get (xs := xs) (j := j) (by have := unhide HN; omega)
      obtain ⟨b1, o1, v1, e1, x1, x3⟩ := (unhide HH).at hx
      subst e1
      obtain ⟨d1, k1, ed1, _⟩ := x3.form
      subst ed1
      have i1 : (j : Int) < (n : Int) := by omega
      have HTT := hide (weight_take xs hx)
      have hle := weight_le xs (j + 1)
      rw [unhide HTT] at hle
      have hle2 : weight (xs.take j) + (x.length + total x) ≤ 1152921504606846976 := Nat.le_trans hle (unhide HW)
      have HWI := hide (wrap_in (n := total x) (by omega))
      have HXL := hide (unhide HR x (List.mem_of_getElem? hx))
      have X3 := hide x3
      clear x3 hx hle
      generalize weight (xs.take j) = t0 at *
      obtain ⟨nx, hnx⟩ : ∃ nx, nx = x.length := ⟨_, rfl⟩
      rw [← hnx] at x1 X3 HTT hle2 HXL
      have HNX := hide hnx
      clear hnx
      go_wp2_with fail
      refine (low_bytes _ x _ (unhide X3) (by rw [← unhide HNX]; exact unhide HXL)).mono ?_
      rintro e w2 ⟨rfl, rfl⟩
      rw [unhide HWI]
      generalize total x = tx at *
      go_wp2_with fail
      exact ⟨⟨j + 1, by omega, by go_num, by rw [unhide HTT]; go_num, by trivial⟩, by simp [intOf]; omega⟩
    · have e : n = j := by omega
      subst e
      have HT : Hid (xs.take n = xs) := List.take_of_length_le (by have := unhide HN; omega)
      rw [unhide HT]
      by_cases h20 : n ≤ 20
      · have h20' : (n : Int) ≤ 20 := by omega
        go_wp2_with fail
        go_ret
        refine ⟨⟨_, rfl, ?_⟩, rfl⟩
        have := unhide HN
        simp
        omega
      · have h20' : ¬ (n : Int) ≤ 20 := by omega
        go_wp2_with fail
        go_ret
        refine ⟨⟨_, rfl, ?_⟩, rfl⟩
        have := unhide HN
        simp
        omega
end Go.Proofs.Ytbbglgfgelnncaa
