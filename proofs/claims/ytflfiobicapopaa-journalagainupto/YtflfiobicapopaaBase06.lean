/- RowsLow, BatchMath, BatchMath2, BatchRef, RowsOwn, BatchRef2, BatchRef3, BatchOk: our own definitions and contracts; no statement of the seat is proved here. -/
import Derived.Test.YtflfiobicapopaaBase04
import Derived.Test.YtflfiobicapopaaBase01
import Derived.Test.YtflfiobicapopaaBase05
import Derived.Maps.AppendAt
import Derived.Lib.SlBytesConst
namespace Go.Proofs.Ytflfiobicapopaa
open Go.RowKit

/-- A slice of one-cell things. -/
def ListAt {α : Type} (E : World → Value → α → Prop) (w : World) (u : Value) (xs : List α) : Prop := ((∃ a c, u = .slice a 0 c) ∧ xs = []) ∨ ∃ b o c, u = .slice (some ⟨b, o, none⟩) xs.length c ∧ xs.length ≤ c ∧
  ∀ i x, xs[i]? = some x → ∃ v, w.cell? ⟨b, o + i, none⟩ = some v ∧ E w v x
theorem ListAt.form {α : Type} {E : World → Value → α → Prop} {w : World} {u : Value} {xs : List α} (h : ListAt E w u xs) : ∃ a c, u = .slice a xs.length c ∧ xs.length ≤ c := by
  rcases h with ⟨⟨a, c, rfl⟩, rfl⟩ | ⟨b, o, c, rfl, hl, _⟩
  · exact ⟨_, _, rfl, Nat.zero_le _⟩
  · exact ⟨_, _, rfl, hl⟩
theorem ListAt.at {α : Type} {E : World → Value → α → Prop} {w : World} {a : Option Addr} {n c : Nat} {xs : List α} (h : ListAt E w (.slice a n c) xs) {i : Nat} {x : α} (hx : xs[i]? = some x) : ∃ b o v, a = some ⟨b, o, none⟩ ∧ w.cell? ⟨b, o + i, none⟩ = some v ∧ E w v x := by
  rcases h with ⟨_, rfl⟩ | ⟨b, o, c', hv, _, hr⟩
  · cases hx
  · simp only [Value.slice.injEq] at hv
    obtain ⟨rfl, _, rfl⟩ := hv
    obtain ⟨v, h1, h2⟩ := hr i x hx
    exact ⟨b, o, v, rfl, h1, h2⟩
theorem ListAt.later {α : Type} {E : World → Value → α → Prop} (hE : ∀ {w w' : World} {v : Value} {x : α}, E w v x → Below w.heap.size w w' → E w' v x) {w w' : World} {u : Value} {xs : List α} (h : ListAt E w u xs) (hb : Below w.heap.size w w') : ListAt E w' u xs := by
  rcases h with h | ⟨b, o, c, hv, hl, hr⟩
  · exact .inl h
  · refine .inr ⟨b, o, c, hv, hl, fun i x hx => ?_⟩
    obtain ⟨v, h1, h2⟩ := hr i x hx
    exact ⟨v, (hb.cell (p := ⟨b, o + i, none⟩) (World.block_lt_of_cell? _ _ h1)).trans h1, hE h2 hb⟩

/-- Rows of bytes. -/
def RowsAt : World → Value → List (List UInt8) → Prop := ListAt Bytes
/-- Rows of rows of bytes. -/
def BatchesAt : World → Value → List (List (List UInt8)) → Prop := ListAt RowsAt
theorem Bytes.later {w w' : World} {u : Value} {bs : List UInt8} (h : Bytes w u bs) (hb : Below w.heap.size w w') : Bytes w' u bs := h.kept fun k _ hk => hb.block k hk
theorem RowsAt.later {w w' : World} {u : Value} {xs : List (List UInt8)} (h : RowsAt w u xs) (hb : Below w.heap.size w w') : RowsAt w' u xs := ListAt.later (E := Bytes) (fun h hb => Bytes.later h hb) h hb
theorem BatchesAt.later {w w' : World} {u : Value} {xs : List (List (List UInt8))} (h : BatchesAt w u xs) (hb : Below w.heap.size w w') : BatchesAt w' u xs := ListAt.later (E := RowsAt) (fun h hb => RowsAt.later h hb) h hb
theorem RowsAt.form {w : World} {u : Value} {xs : List (List UInt8)} (h : RowsAt w u xs) : ∃ a c, u = .slice a xs.length c ∧ xs.length ≤ c := ListAt.form h
theorem BatchesAt.form {w : World} {u : Value} {xs : List (List (List UInt8))} (h : BatchesAt w u xs) : ∃ a c, u = .slice a xs.length c ∧ xs.length ≤ c := ListAt.form h

theorem list_ext {α : Type} {xs ys : List α} (hl : xs.length = ys.length) (h : ∀ (t : Nat) (x y : α), xs[t]? = some x → ys[t]? = some y → x = y) : xs = ys := by
  apply List.ext_getElem hl
  intro t h1 h2
  exact h t _ _ (List.getElem?_eq_getElem h1) (List.getElem?_eq_getElem h2)
theorem some_get {α : Type} {xs : List α} {j : Nat} (h : j < xs.length) : ∃ x, xs[j]? = some x := ⟨xs[j], List.getElem?_eq_getElem h⟩

set_option maxRecDepth 100000 in
set_option maxHeartbeats 2000000 in
theorem low_sameRows (u1 u2 : Value) (xs ys : List (List UInt8)) (w : World) (h1 : RowsAt w u1 xs) (h2 : RowsAt w u2 ys) (hl1 : xs.length ≤ 140737488355328) :
    Calls Try.prog 32 #[u1, u2] w fun e w' => e = .returned (.bool (decide (xs = ys))) ∧ Below w.heap.size w w' := by
  obtain ⟨a1, c1, rfl, _⟩ := h1.form
  obtain ⟨a2, c2, rfl, _⟩ := h2.form
  obtain ⟨n1, hn1⟩ : ∃ n1, n1 = xs.length := ⟨_, rfl⟩
  obtain ⟨n2, hn2⟩ : ∃ n2, n2 = ys.length := ⟨_, rfl⟩
  rw [← hn1] at h1 hl1 ⊢
  rw [← hn2] at h2 ⊢
  have H1 := hide h1
  have H2 := hide h2
  have L1 := hide hn1
  have L2 := hide hn2
  clear h1 h2 hn1 hn2
  by_cases hne : n1 = n2
  · subst hne
    go_enter Try.func32, Try.ntmps32
    go_wp2_with fail
    go_loopw [13] (fun i W => ∃ j : Nat, j ≤ n1 ∧ i = .int .i64 j ∧ (∀ t x y, t < j → xs[t]? = some x → ys[t]? = some y → x = y) ∧ Below w.heap.size w W) (fun i _ => n1 - (intOf i).toNat)
    case atStart => exact ⟨0, Nat.zero_le _, rfl, fun t x y ht => by omega, Below.refl _ w⟩
    case round =>
      obtain ⟨j, hj, rfl, hsm, hB⟩ := hrel
      have HS := hide hsm
      have HB := hide hB
      clear hsm hB
      by_cases hlt : j < n1
      · obtain ⟨x, hx⟩ := some_get (xs := xs) (j := j) (by have := unhide L1; omega)
        obtain ⟨y, hy⟩ := some_get (xs := ys) (j := j) (by have := unhide L2; omega)
        obtain ⟨b1, o1, v1, e1, x1, x3⟩ := ((unhide H1).later (unhide HB)).at hx
        obtain ⟨b2, o2, v2, e2, z1, z3⟩ := ((unhide H2).later (unhide HB)).at hy
        subst e1 e2
        obtain ⟨d1, k1, ed1, _⟩ := x3.form
        obtain ⟨d2, k2, ed2, _⟩ := z3.form
        subst ed1 ed2
        have i0 : (0 : Int) ≤ (j : Int) := by omega
        have i1 : (j : Int) < (n1 : Int) := by omega
        have X3 := hide x3
        have Z3 := hide z3
        have HX := hide hx
        have HY := hide hy
        have lx1 := Later.cell x1
        have lz1 := Later.cell z1
        clear x3 z3 hx hy x1 z1
        generalize x.length = nx at *
        generalize y.length = ny at *
        go_upto_region 6 with fail
        have hne : Nonempty (Later wr) := ⟨⟨wr, Below.refl _ _⟩⟩
        refine wp_region_later (by kernel_rfl) ?_
        repeat (go_big_quiet_step ((rename_i q; go_at_call 28; refine (low_same _ _ x y _ (Later.bytes (unhide X3) q) (Later.bytes (unhide Z3) q)).mono ?_; rintro e w2 ⟨rfl, hw⟩; exact ⟨rfl, q.same hw⟩)))
        refine wpQuiet_nil ?_
        rintro _ ⟨q, rfl⟩
        have HB2 : Hid (Below w.heap.size w q.1) := (unhide HB).trans (q.2.mono (unhide HB).size)
        generalize q.1 = W2 at *
        by_cases he : x = y
        · have hd : decide (x = y) = true := decide_eq_true he
          have HE := hide he
          rw [hd]
          clear hd he
          go_wp2_with fail
          exact ⟨⟨j + 1, by omega, by go_num, fun t x' y' ht h1 h2 => by
            by_cases e : t = j
            · rw [e, unhide HX] at h1; rw [e, unhide HY] at h2; cases h1; cases h2; exact unhide HE
            · exact unhide HS t x' y' (by omega) h1 h2, unhide HB2⟩, by simp [intOf]; omega⟩
        · have hd : decide (x = y) = false := decide_eq_false he
          have HNE : Hid (decide (xs = ys) = false) := decide_eq_false fun e => he (by have h1 := unhide HX; have h2 := unhide HY; rw [e, h2] at h1; cases h1; rfl)
          rw [hd]
          clear hd he
          go_wp2_with fail
          go_ret
          exact ⟨by rw [unhide HNE]; rfl, unhide HB2⟩
      · have HEQ : Hid (decide (xs = ys) = true) := decide_eq_true (list_ext (by rw [← unhide L1, ← unhide L2]) fun t x y h1 h2 => unhide HS t x y (by have := (List.getElem?_eq_some_iff.1 h1).1; have := unhide L1; omega) h1 h2)
        go_wp2_with fail
        go_ret
        exact ⟨by rw [unhide HEQ]; rfl, unhide HB⟩
  · have hne1 : ¬ (n1 : Int) = (n2 : Int) := by omega
    have HNE : Hid (decide (xs = ys) = false) := decide_eq_false fun e => hne (by rw [unhide L1, unhide L2, e])
    go_enter Try.func32, Try.ntmps32
    go_wp2_with fail
    go_ret
    exact ⟨by rw [unhide HNE]; rfl, Below.refl _ w⟩

set_option maxRecDepth 100000 in
set_option maxHeartbeats 2000000 in
theorem low_sameBatches (u1 u2 : Value) (xs ys : List (List (List UInt8))) (w : World) (h1 : BatchesAt w u1 xs) (h2 : BatchesAt w u2 ys) (hl1 : xs.length ≤ 140737488355328) (hl2 : ∀ x ∈ xs, x.length ≤ 140737488355328) :
    Calls Try.prog 18 #[u1, u2] w fun e w' => e = .returned (.bool (decide (xs = ys))) ∧ Below w.heap.size w w' := by
  obtain ⟨a1, c1, rfl, _⟩ := h1.form
  obtain ⟨a2, c2, rfl, _⟩ := h2.form
  obtain ⟨n1, hn1⟩ : ∃ n1, n1 = xs.length := ⟨_, rfl⟩
  obtain ⟨n2, hn2⟩ : ∃ n2, n2 = ys.length := ⟨_, rfl⟩
  rw [← hn1] at h1 hl1 ⊢
  rw [← hn2] at h2 ⊢
  have H1 := hide h1
  have H2 := hide h2
  have HLL := hide hl2
  have L1 := hide hn1
  have L2 := hide hn2
  clear h1 h2 hn1 hn2 hl2
  by_cases hne : n1 = n2
  · subst hne
    go_enter Try.func18, Try.ntmps18
    go_wp2_with fail
    go_loopw [13] (fun i W => ∃ j : Nat, j ≤ n1 ∧ i = .int .i64 j ∧ (∀ t x y, t < j → xs[t]? = some x → ys[t]? = some y → x = y) ∧ Below w.heap.size w W) (fun i _ => n1 - (intOf i).toNat)
    case atStart => exact ⟨0, Nat.zero_le _, rfl, fun t x y ht => by omega, Below.refl _ w⟩
    case round =>
      obtain ⟨j, hj, rfl, hsm, hB⟩ := hrel
      have HS := hide hsm
      have HB := hide hB
      clear hsm hB
      by_cases hlt : j < n1
      · obtain ⟨x, hx⟩ := some_get (xs := xs) (j := j) (by have := unhide L1; omega)
        obtain ⟨y, hy⟩ := some_get (xs := ys) (j := j) (by have := unhide L2; omega)
        obtain ⟨b1, o1, v1, e1, x1, x3⟩ := ((unhide H1).later (unhide HB)).at hx
        obtain ⟨b2, o2, v2, e2, z1, z3⟩ := ((unhide H2).later (unhide HB)).at hy
        subst e1 e2
        obtain ⟨d1, k1, ed1, _⟩ := x3.form
        obtain ⟨d2, k2, ed2, _⟩ := z3.form
        subst ed1 ed2
        have i0 : (0 : Int) ≤ (j : Int) := by omega
        have i1 : (j : Int) < (n1 : Int) := by omega
        have X3 := hide x3
        have Z3 := hide z3
        have HX := hide hx
        have HL2 := hide (unhide HLL x (List.mem_of_getElem? hx))
        have HY := hide hy
        have lx1 := Later.cell x1
        have lz1 := Later.cell z1
        clear x3 z3 hx hy x1 z1
        obtain ⟨nx, hnx⟩ : ∃ nx, nx = x.length := ⟨_, rfl⟩
        obtain ⟨ny, hny⟩ : ∃ ny, ny = y.length := ⟨_, rfl⟩
        rw [← hnx] at X3 lx1
        rw [← hny] at Z3 lz1
        clear hnx hny
        go_upto_region 6 with fail
        have hne : Nonempty (Later wr) := ⟨⟨wr, Below.refl _ _⟩⟩
        refine wp_region_later (by kernel_rfl) ?_
        repeat (go_big_quiet_step ((rename_i q; go_at_call 32; refine (low_sameRows _ _ x y _ (RowsAt.later (unhide X3) q.2) (RowsAt.later (unhide Z3) q.2) (unhide HL2)).mono ?_; rintro e w2 ⟨rfl, hb⟩; exact ⟨rfl, q.then hb⟩)))
        refine wpQuiet_nil ?_
        rintro _ ⟨q, rfl⟩
        have HB2 : Hid (Below w.heap.size w q.1) := (unhide HB).trans (q.2.mono (unhide HB).size)
        generalize q.1 = W2 at *
        by_cases he : x = y
        · have hd : decide (x = y) = true := decide_eq_true he
          have HE := hide he
          rw [hd]
          clear hd he
          go_wp2_with fail
          exact ⟨⟨j + 1, by omega, by go_num, fun t x' y' ht h1 h2 => by
            by_cases e : t = j
            · rw [e, unhide HX] at h1; rw [e, unhide HY] at h2; cases h1; cases h2; exact unhide HE
            · exact unhide HS t x' y' (by omega) h1 h2, unhide HB2⟩, by simp [intOf]; omega⟩
        · have hd : decide (x = y) = false := decide_eq_false he
          have HNE : Hid (decide (xs = ys) = false) := decide_eq_false fun e => he (by have h1 := unhide HX; have h2 := unhide HY; rw [e, h2] at h1; cases h1; rfl)
          rw [hd]
          clear hd he
          go_wp2_with fail
          go_ret
          exact ⟨by rw [unhide HNE]; rfl, unhide HB2⟩
      · have HEQ : Hid (decide (xs = ys) = true) := decide_eq_true (list_ext (by rw [← unhide L1, ← unhide L2]) fun t x y h1 h2 => unhide HS t x y (by have := (List.getElem?_eq_some_iff.1 h1).1; have := unhide L1; omega) h1 h2)
        go_wp2_with fail
        go_ret
        exact ⟨by rw [unhide HEQ]; rfl, unhide HB⟩
  · have hne1 : ¬ (n1 : Int) = (n2 : Int) := by omega
    have HNE : Hid (decide (xs = ys) = false) := decide_eq_false fun e => hne (by rw [unhide L1, unhide L2, e])
    go_enter Try.func18, Try.ntmps18
    go_wp2_with fail
    go_ret
    exact ⟨by rw [unhide HNE]; rfl, Below.refl _ w⟩

/-- How many bytes there are in rows. -/
def total : List (List UInt8) → Nat
  | [] => 0
  | r :: rs => r.length + total rs
theorem total_append (xs ys : List (List UInt8)) : total (xs ++ ys) = total xs + total ys := by
  induction xs with
  | nil => simp [total]
  | cons x xs ih => simp only [List.cons_append, total, ih]; omega
theorem total_take (xs : List (List UInt8)) {j : Nat} {x : List UInt8} (hx : xs[j]? = some x) : total (xs.take (j + 1)) = total (xs.take j) + x.length := by
  obtain ⟨hj, rfl⟩ := List.getElem?_eq_some_iff.1 hx
  rw [List.take_succ_eq_append_getElem hj, total_append]
  simp [total]
theorem total_mem {xs : List (List UInt8)} {x : List UInt8} (h : x ∈ xs) : x.length ≤ total xs := by
  induction xs with
  | nil => cases h
  | cons y ys ih =>
    simp only [total]
    rcases List.mem_cons.1 h with e | e
    · rw [e]; omega
    · have := ih e; omega
theorem wrap_add (a b : Int) : wrap64 (wrap64 a + b) = wrap64 (a + b) := by unfold wrap64; omega

set_option maxRecDepth 100000 in
set_option maxHeartbeats 2000000 in
theorem low_bytes (u : Value) (xs : List (List UInt8)) (w : World) (h : RowsAt w u xs) (hl : xs.length ≤ 140737488355328) : Calls Try.prog 8 #[u] w fun e w' => e = .returned (.int .i64 (wrap64 ((total xs : Nat) : Int))) ∧ w' = w := by
  obtain ⟨a, c, rfl, _⟩ := h.form
  obtain ⟨n, hn⟩ : ∃ n, n = xs.length := ⟨_, rfl⟩
  rw [← hn] at h hl ⊢
  have HH := hide h
  have HN := hide hn
  clear h hn
  go_enter Try.func8, Try.ntmps8
  go_wp2_with fail
  go_loopw [3, 8] (fun s i W => ∃ j : Nat, j ≤ n ∧ i = .int .i64 j ∧ s = .int .i64 (wrap64 ((total (xs.take j) : Nat) : Int)) ∧ W = w) (fun _ i _ => n - (intOf i).toNat)
  case atStart => exact ⟨0, Nat.zero_le _, rfl, by simp [total, wrap64], rfl⟩
  case round =>
    obtain ⟨j, hj, rfl, rfl, rfl⟩ := hrel
    by_cases hlt : j < n
    · obtain ⟨x, hx⟩ := some_get (xs := xs) (j := j) (by have := unhide HN; omega)
      obtain ⟨b1, o1, v1, e1, x1, x3⟩ := (unhide HH).at hx
      subst e1
      obtain ⟨d1, k1, ed1, _⟩ := x3.form
      subst ed1
      have i1 : (j : Int) < (n : Int) := by omega
      have HTT := hide (total_take xs hx)
      have HWA := hide (wrap_add ((total (xs.take j) : Nat) : Int) ((x.length : Nat) : Int))
      clear x3 hx
      generalize total (xs.take j) = t0 at *
      generalize x.length = nx at *
      generalize wrap64 ((t0 : Nat) : Int) = s0 at *
      go_wp2_with fail
      exact ⟨⟨j + 1, by omega, by go_num, by rw [unhide HTT, unhide HWA]; push_cast; rfl, by trivial⟩, by simp [intOf]; omega⟩
    · have e : n = j := by omega
      subst e
      have HT : Hid (xs.take n = xs) := List.take_of_length_le (by have := unhide HN; omega)
      rw [unhide HT]
      go_wp2_with fail
      go_ret
      exact ⟨rfl, rfl⟩

/-- How many rows and bytes there are in batches. -/
def weight : List (List (List UInt8)) → Nat
  | [] => 0
  | r :: rs => r.length + total r + weight rs
theorem weight_append (xs ys : List (List (List UInt8))) : weight (xs ++ ys) = weight xs + weight ys := by
  induction xs with
  | nil => simp [weight]
  | cons x xs ih => simp only [List.cons_append, weight, ih]; omega
theorem weight_take (xs : List (List (List UInt8))) {j : Nat} {x : List (List UInt8)} (hx : xs[j]? = some x) : weight (xs.take (j + 1)) = weight (xs.take j) + (x.length + total x) := by
  obtain ⟨hj, rfl⟩ := List.getElem?_eq_some_iff.1 hx
  rw [List.take_succ_eq_append_getElem hj, weight_append]
  simp [weight]
theorem weight_mem {xs : List (List (List UInt8))} {x : List (List UInt8)} (h : x ∈ xs) : x.length + total x ≤ weight xs := by
  induction xs with
  | nil => cases h
  | cons y ys ih =>
    simp only [weight]
    rcases List.mem_cons.1 h with e | e
    · rw [e]; omega
    · have := ih e; omega
theorem weight_le (xs : List (List (List UInt8))) (j : Nat) : weight (xs.take j) ≤ weight xs := by
  conv => rhs; rw [← List.take_append_drop j xs]
  rw [weight_append]
  omega
theorem wrap_in {n : Nat} (h : n ≤ 1152921504606846976) : wrap64 ((n : Nat) : Int) = ((n : Nat) : Int) := by unfold wrap64; omega
/-- What Few answers. -/
def FewAt (xs : List (List (List UInt8))) (e : Ending) : Prop := ∃ b : Bool, e = .returned (.bool b) ∧ (b = true ↔ (xs.length ≤ 20 ∧ weight xs ≤ 3000))

set_option maxRecDepth 100000 in
set_option maxHeartbeats 2000000 in
theorem low_few (u : Value) (xs : List (List (List UInt8))) (w : World) (h : BatchesAt w u xs) (hl : xs.length ≤ 140737488355328) (hw : weight xs ≤ 1152921504606846976) (hr : ∀ x ∈ xs, x.length ≤ 140737488355328) : Calls Try.prog 20 #[u] w fun e w' => FewAt xs e ∧ w' = w := by
  obtain ⟨a, c, rfl, _⟩ := h.form
  obtain ⟨n, hn⟩ : ∃ n, n = xs.length := ⟨_, rfl⟩
  rw [← hn] at h hl ⊢
  have HH := hide h
  have HN := hide hn
  have HW := hide hw
  have HR := hide hr
  clear h hn hw hr
  go_enter Try.func20, Try.ntmps20
  go_wp2_with fail
  go_loopw [3, 8] (fun s i W => ∃ j : Nat, j ≤ n ∧ i = .int .i64 j ∧ s = .int .i64 ((weight (xs.take j) : Nat) : Int) ∧ W = w) (fun _ i _ => n - (intOf i).toNat)
  case atStart => exact ⟨0, Nat.zero_le _, rfl, by simp [weight], rfl⟩
  case round =>
    obtain ⟨j, hj, rfl, rfl, rfl⟩ := hrel
    by_cases hlt : j < n
    · obtain ⟨x, hx⟩ := some_get (xs := xs) (j := j) (by have := unhide HN; omega)
      obtain ⟨b1, o1, v1, e1, x1, x3⟩ := (unhide HH).at hx
      subst e1
      obtain ⟨d1, k1, ed1, _⟩ := x3.form
      subst ed1
      have i1 : (j : Int) < (n : Int) := by omega
      have HTT := hide (weight_take xs hx)
      have hle := weight_le xs (j + 1)
      rw [unhide HTT] at hle
      have hle2 : weight (xs.take j) + (x.length + total x) ≤ 1152921504606846976 := Nat.le_trans hle (unhide HW)
      have HWI := hide (wrap_in (n := total x) (by omega))
      have HXL := hide (unhide HR x (List.mem_of_getElem? hx))
      have X3 := hide x3
      clear x3 hx hle
      generalize weight (xs.take j) = t0 at *
      obtain ⟨nx, hnx⟩ : ∃ nx, nx = x.length := ⟨_, rfl⟩
      rw [← hnx] at x1 X3 HTT hle2 HXL
      have HNX := hide hnx
      clear hnx
      go_wp2_with fail
      refine (low_bytes _ x _ (unhide X3) (by rw [← unhide HNX]; exact unhide HXL)).mono ?_
      rintro e w2 ⟨rfl, rfl⟩
      rw [unhide HWI]
      generalize total x = tx at *
      go_wp2_with fail
      exact ⟨⟨j + 1, by omega, by go_num, by rw [unhide HTT]; go_num, by trivial⟩, by simp [intOf]; omega⟩
    · have e : n = j := by omega
      subst e
      have HT : Hid (xs.take n = xs) := List.take_of_length_le (by have := unhide HN; omega)
      rw [unhide HT]
      by_cases h20 : n ≤ 20
      · have h20' : (n : Int) ≤ 20 := by omega
        go_wp2_with fail
        go_ret
        refine ⟨⟨_, rfl, ?_⟩, rfl⟩
        have := unhide HN
        simp
        omega
      · have h20' : ¬ (n : Int) ≤ 20 := by omega
        go_wp2_with fail
        go_ret
        refine ⟨⟨_, rfl, ?_⟩, rfl⟩
        have := unhide HN
        simp
        omega
end Go.Proofs.Ytflfiobicapopaa

namespace Go.Proofs.Ytflfiobicapopaa

/-- A row as a record; the record behind so many rows. -/
def dat (d : List UInt8) : RecD := ⟨1, d⟩
def two (n : Nat) : List UInt8 := [UInt8.ofNat (n % 256), UInt8.ofNat (n / 256 % 256)]
def commit (n : Nat) : RecD := ⟨2, two n⟩
/-- A batch as records, and as bytes. -/
def recsOf (rows : List (List UInt8)) : List RecD := rows.map dat ++ [commit rows.length]
def bput (rows : List (List UInt8)) : List UInt8 := puts (recsOf rows)
/-- A right batch. -/
def okRows (rows : List (List UInt8)) : Prop := (1 ≤ rows.length ∧ rows.length ≤ 1024) ∧ ∀ r ∈ rows, r.length ≤ 4096
/-- What Put answers: the error, or 0. -/
def bputErr (rows : List (List UInt8)) : Int := if rows.length < 1 ∨ 1024 < rows.length then 34 else if ∀ r ∈ rows, r.length ≤ 4096 then 0 else 31
def bputOf (rows : List (List UInt8)) : List UInt8 := if bputErr rows = 0 then bput rows else []

theorem bputErr_zero {rows : List (List UInt8)} : bputErr rows = 0 ↔ okRows rows := by
  unfold bputErr okRows
  constructor
  · intro h
    split at h
    · cases h
    · split at h
      · rename_i h1 h2; exact ⟨by omega, h2⟩
      · cases h
  · rintro ⟨h1, h2⟩
    rw [if_neg (by omega), if_pos h2]

theorem dat_right {d : List UInt8} (h : d.length ≤ 4096) : (dat d).right := ⟨⟨(by decide : 1 ≤ (1 : UInt8).toNat), (by decide : (1 : UInt8).toNat ≤ 2)⟩, h⟩
theorem two_len (n : Nat) : (two n).length = 2 := rfl
theorem commit_right (n : Nat) : (commit n).right := ⟨⟨(by decide : 1 ≤ (2 : UInt8).toNat), (by decide : (2 : UInt8).toNat ≤ 2)⟩, by show 2 ≤ 4096; omega⟩
theorem le_two {n : Nat} (h : n < 65536) : le (two n) = n := by
  show (UInt8.ofNat (n % 256)).toNat + 256 * ((UInt8.ofNat (n / 256 % 256)).toNat + 256 * 0) = n
  rw [u8_of _ (by omega), u8_of _ (by omega)]
  omega
theorem recsOf_right {rows : List (List UInt8)} (h : ∀ r ∈ rows, r.length ≤ 4096) : ∀ r ∈ recsOf rows, r.right := by
  intro r hr
  rcases List.mem_append.1 hr with hr | hr
  · obtain ⟨d, hd, rfl⟩ := List.mem_map.1 hr
    exact dat_right (h d hd)
  · rw [List.mem_singleton] at hr
    rw [hr]
    exact commit_right _

/-- What is scanned of records: the batches, where the last one ends, why it ended; f: why, if so many are kept at the end. -/
def scanGo (f : Nat → Int) : List RecD → List (List (List UInt8)) → List (List UInt8) → Nat → Nat → List (List (List UInt8)) × Nat × Int
  | [], out, kept, _, en => (out, en, f kept.length)
  | r :: rs, out, kept, at', en =>
    if r.k = 1 then if kept.length = 1024 then (out, en, 34) else scanGo f rs out (kept ++ [r.d]) (at' + (9 + r.d.length)) en
    else if kept.length = 0 ∨ r.d.length ≠ 2 ∨ le r.d ≠ kept.length then (out, en, 34) else scanGo f rs (out ++ [kept]) [] (at' + (9 + r.d.length)) (at' + (9 + r.d.length))

/-- Why it ended, if so many are kept. -/
def finErr (e : Int) (k : Nat) : Int := if e = 0 ∧ 0 < k then 32 else e
/-- What Scan answers. -/
def ScanIs (b : List UInt8) (bs : List (List (List UInt8))) (n : Nat) (x : Int) : Prop := ∃ rs m e, AllIs b rs m e ∧ scanGo (finErr e) rs [] [] 0 0 = (bs, n, x)
theorem ScanIs.same {b : List UInt8} {bs bs' : List (List (List UInt8))} {n n' : Nat} {x x' : Int} (h : ScanIs b bs n x) (h' : ScanIs b bs' n' x') : bs = bs' ∧ n = n' ∧ x = x' := by
  obtain ⟨rs, m, e, h1, h2⟩ := h
  obtain ⟨rs', m', e', h3, h4⟩ := h'
  obtain ⟨rfl, rfl, rfl⟩ := h1.same h3
  rw [h2] at h4
  simp only [Prod.mk.injEq] at h4
  exact h4
theorem AllIs.some (b : List UInt8) : ∃ rs m e, AllIs b rs m e := by
  suffices h : ∀ (n : Nat) (b : List UInt8), b.length ≤ n → ∃ rs m e, AllIs b rs m e from h _ b (Nat.le_refl _)
  intro n
  induction n with
  | zero =>
    intro b hb
    obtain rfl := List.eq_nil_of_length_eq_zero (by omega : b.length = 0)
    exact ⟨_, _, _, .none⟩
  | succ n ih =>
    intro b hb
    by_cases h0 : b = []
    · rw [h0]; exact ⟨_, _, _, .none⟩
    · by_cases he : takeErr b = 0
      · have h1 := (put_take b he).2.2.2.1
        obtain ⟨rs, m, e, h2⟩ := ih (b.drop (takeLen b)) (by rw [List.length_drop]; omega)
        exact ⟨_, _, _, .more h0 he h2⟩
      · exact ⟨_, _, _, .stop h0 he⟩

theorem scan_rows (f : Nat → Int) : ∀ (rows : List (List UInt8)) (rest : List RecD) (out : List (List (List UInt8))) (kept : List (List UInt8)) (at' en : Nat), kept.length + rows.length ≤ 1024 →
    scanGo f (rows.map dat ++ rest) out kept at' en = scanGo f rest out (kept ++ rows) (at' + (puts (rows.map dat)).length) en
  | [], rest, out, kept, at', en, _ => by simp [puts]
  | d :: rows, rest, out, kept, at', en, h => by
    rw [List.length_cons] at h
    show scanGo f (dat d :: (rows.map dat ++ rest)) out kept at' en = _
    have hk : (dat d).k = 1 := rfl
    rw [scanGo, if_pos hk, if_neg (by omega)]
    show scanGo f (rows.map dat ++ rest) out (kept ++ [d]) (at' + (9 + d.length)) en = _
    rw [scan_rows f rows rest out (kept ++ [d]) (at' + (9 + d.length)) en (by rw [List.length_append, List.length_singleton]; omega)]
    congr 1
    · rw [List.append_assoc]; rfl
    · rw [List.map_cons, puts_cons, List.length_append, put_len]
      show at' + (9 + d.length) + _ = at' + (9 + d.length + _)
      omega

theorem scan_batch (f : Nat → Int) (rows : List (List UInt8)) (h : 1 ≤ rows.length ∧ rows.length ≤ 1024) (rest : List RecD) (out : List (List (List UInt8))) (at' en : Nat) :
    scanGo f (recsOf rows ++ rest) out [] at' en = scanGo f rest (out ++ [rows]) [] (at' + (bput rows).length) (at' + (bput rows).length) := by
  unfold recsOf
  rw [List.append_assoc, scan_rows f rows _ out [] at' en (by rw [List.length_nil]; omega), List.nil_append]
  show scanGo f (commit rows.length :: rest) out rows _ en = _
  have hne : (commit rows.length).k ≠ 1 := (by decide : (2 : UInt8) ≠ 1)
  have hle : le (commit rows.length).d = rows.length := le_two (by omega)
  rw [scanGo, if_neg hne, if_neg (by rw [hle]; show ¬ (rows.length = 0 ∨ 2 ≠ 2 ∨ _); omega)]
  have e : (bput rows).length = (puts (rows.map dat)).length + (9 + (commit rows.length).d.length) := by
    unfold bput recsOf
    rw [puts_snoc, List.length_append, put_len]
  rw [e]
  congr 1 <;> omega

/-- Batches as records. -/
def recsAll (l : List (List (List UInt8))) : List RecD := l.flatMap recsOf
def bputs (l : List (List (List UInt8))) : List UInt8 := puts (recsAll l)
theorem bputs_nil : bputs [] = [] := rfl
theorem recsAll_cons (rows : List (List UInt8)) (l : List (List (List UInt8))) : recsAll (rows :: l) = recsOf rows ++ recsAll l := rfl
theorem recsAll_append (l m : List (List (List UInt8))) : recsAll (l ++ m) = recsAll l ++ recsAll m := List.flatMap_append ..
theorem bputs_append (l m : List (List (List UInt8))) : bputs (l ++ m) = bputs l ++ bputs m := by unfold bputs; rw [recsAll_append, puts_append]
theorem bputs_one (rows : List (List UInt8)) : bputs [rows] = bput rows := by unfold bputs bput recsAll; simp
theorem bputs_snoc (l : List (List (List UInt8))) (rows : List (List UInt8)) : bputs (l ++ [rows]) = bputs l ++ bput rows := by rw [bputs_append, bputs_one]
theorem recsAll_right {l : List (List (List UInt8))} (h : ∀ rows ∈ l, okRows rows) : ∀ r ∈ recsAll l, r.right := by
  intro r hr
  obtain ⟨rows, h1, h2⟩ := List.mem_flatMap.1 hr
  exact recsOf_right (h rows h1).2 r h2

theorem scan_batches (f : Nat → Int) : ∀ (l : List (List (List UInt8))), (∀ rows ∈ l, okRows rows) → ∀ (rest : List RecD) (out : List (List (List UInt8))) (at' : Nat),
    scanGo f (recsAll l ++ rest) out [] at' at' = scanGo f rest (out ++ l) [] (at' + (bputs l).length) (at' + (bputs l).length)
  | [], _, rest, out, at' => by simp [recsAll, bputs, puts]
  | rows :: l, h, rest, out, at' => by
    rw [recsAll_cons, List.append_assoc, scan_batch f rows (h rows (List.mem_cons_self ..)).1, scan_batches f l (fun r hr => h r (List.mem_cons_of_mem _ hr))]
    have e : (bputs (rows :: l)).length = (bput rows).length + (bputs l).length := by
      have : rows :: l = [rows] ++ l := rfl
      rw [this, bputs_append, bputs_one, List.length_append]
    rw [e]
    congr 1
    · rw [List.append_assoc]; rfl
    · omega
    · omega

/-- What stands behind. -/
theorem scan_shift (f : Nat → Int) : ∀ (rs : List RecD) (out : List (List (List UInt8))) (kept : List (List UInt8)) (a en s : Nat) (pre : List (List (List UInt8))) (bs : List (List (List UInt8))) (n : Nat) (x : Int),
    scanGo f rs out kept a en = (bs, n, x) → scanGo f rs (pre ++ out) kept (s + a) (s + en) = (pre ++ bs, s + n, x)
  | [], out, kept, a, en, s, pre, bs, n, x, h => by
    simp only [scanGo, Prod.mk.injEq] at h ⊢
    obtain ⟨rfl, rfl, rfl⟩ := h
    exact ⟨rfl, rfl, rfl⟩
  | r :: rs, out, kept, a, en, s, pre, bs, n, x, h => by
    rw [scanGo] at h ⊢
    by_cases h1 : r.k = 1
    · rw [if_pos h1] at h ⊢
      by_cases h2 : kept.length = 1024
      · rw [if_pos h2] at h ⊢
        simp only [Prod.mk.injEq] at h ⊢
        obtain ⟨rfl, rfl, rfl⟩ := h
        exact ⟨rfl, rfl, rfl⟩
      · rw [if_neg h2] at h ⊢
        have := scan_shift f rs out (kept ++ [r.d]) _ en s pre bs n x h
        rwa [← Nat.add_assoc] at this
    · rw [if_neg h1] at h ⊢
      by_cases h2 : kept.length = 0 ∨ r.d.length ≠ 2 ∨ le r.d ≠ kept.length
      · rw [if_pos h2] at h ⊢
        simp only [Prod.mk.injEq] at h ⊢
        obtain ⟨rfl, rfl, rfl⟩ := h
        exact ⟨rfl, rfl, rfl⟩
      · rw [if_neg h2] at h ⊢
        have := scan_shift f rs (out ++ [kept]) [] _ _ s pre bs n x h
        rwa [← Nat.add_assoc, ← List.append_assoc] at this

/-- P4.4: whatever stands behind whole batches. -/
theorem scan_behind {l : List (List (List UInt8))} (hl : ∀ rows ∈ l, okRows rows) {more : List UInt8} {rest : List (List (List UInt8))} {k : Nat} {x : Int} (h : ScanIs more rest k x) : ScanIs (bputs l ++ more) (l ++ rest) ((bputs l).length + k) x := by
  obtain ⟨rs, m, e, h1, h2⟩ := h
  obtain ⟨rs', m', e', h3⟩ := AllIs.some (bputs l ++ more)
  obtain ⟨ts, m'', e1, h4, e2⟩ := AllIs.behind (recsAll_right hl) h3
  obtain ⟨rfl, rfl, rfl⟩ := h1.same h4
  refine ⟨rs', m', e, h3, ?_⟩
  rw [e1, scan_batches _ l hl rs [] 0, Nat.zero_add, List.nil_append]
  have := scan_shift (finErr e) rs [] [] 0 0 (bputs l).length l rest k x h2
  rwa [List.append_nil, Nat.add_zero] at this
end Go.Proofs.Ytflfiobicapopaa

namespace Go.Proofs.Ytflfiobicapopaa

theorem split_mono (p : Nat → Nat) (n k : Nat) (h0 : p 0 ≤ k) (hm : ∀ i j, i ≤ j → j ≤ n → p i ≤ p j) : ∃ t, t ≤ n ∧ (∀ j, j ≤ t → p j ≤ k) ∧ (∀ j, t < j → j ≤ n → k < p j) := by
  suffices h : ∀ m, m ≤ n → ∃ t, t ≤ m ∧ (∀ j, j ≤ t → p j ≤ k) ∧ (∀ j, t < j → j ≤ m → k < p j) from h _ (Nat.le_refl _)
  intro m
  induction m with
  | zero =>
    intro _
    refine ⟨0, Nat.le_refl _, fun j hj => ?_, fun j h1 h2 => by omega⟩
    have e : j = 0 := by omega
    rw [e]
    exact h0
  | succ m ih =>
    intro hmn
    obtain ⟨t, ht, h1, h2⟩ := ih (by omega)
    by_cases hk : p (m + 1) ≤ k
    · exact ⟨m + 1, Nat.le_refl _, fun j hj => Nat.le_trans (hm j (m + 1) hj hmn) hk, fun j h3 h4 => by omega⟩
    · refine ⟨t, by omega, h1, fun j h3 h4 => ?_⟩
      by_cases e : j = m + 1
      · rw [e]; omega
      · exact h2 j h3 (by omega)

/-- How many bytes the first j batches have. -/
def blen (l : List (List (List UInt8))) (j : Nat) : Nat := (bputs (l.take j)).length
theorem blen_zero (l : List (List (List UInt8))) : blen l 0 = 0 := by simp [blen, bputs, recsAll, puts]
theorem blen_all (l : List (List (List UInt8))) : blen l l.length = (bputs l).length := by unfold blen; rw [List.take_length]
theorem blen_succ (l : List (List (List UInt8))) {j : Nat} {rows : List (List UInt8)} (hx : l[j]? = some rows) : blen l (j + 1) = blen l j + (bput rows).length := by
  obtain ⟨hj, rfl⟩ := List.getElem?_eq_some_iff.1 hx
  unfold blen
  rw [List.take_succ_eq_append_getElem hj, bputs_snoc, List.length_append]
theorem blen_mono (l : List (List (List UInt8))) (i j : Nat) (hij : i ≤ j) : blen l i ≤ blen l j := by
  have e : l.take j = l.take i ++ (l.take j).drop i := by
    have := List.take_append_drop i (l.take j)
    rw [List.take_take, Nat.min_eq_left hij] at this
    exact this.symm
  unfold blen
  rw [e, bputs_append, List.length_append]
  omega
theorem bput_pos (rows : List (List UInt8)) : 0 < (bput rows).length := by
  unfold bput recsOf
  rw [puts_snoc, List.length_append, put_len]
  omega

/-- A part of a batch is none. -/
theorem scan_part {rows : List (List UInt8)} (hr : okRows rows) {j : Nat} (h0 : 0 < j) (hj : j < (bput rows).length) : ScanIs ((bput rows).take j) [] 0 32 := by
  obtain ⟨ss, m, x, hA⟩ := AllIs.some ((bput rows).take j)
  obtain ⟨t, ht, h1, h2⟩ := split_at (recsOf rows) j
  have htl : t < (recsOf rows).length := by
    rcases Nat.lt_or_ge t (recsOf rows).length with h | h
    · exact h
    · have e : t = (recsOf rows).length := by omega
      have h3 := h1 t (Nat.le_refl _)
      rw [e, plen_all] at h3
      have h4 : (bput rows).length = (puts (recsOf rows)).length := rfl
      omega
  obtain ⟨e1, _, hx⟩ := cut_all (recsOf rows) (recsOf_right hr.2) (k := j) (t := t) (by exact Nat.le_of_lt hj) ht (h1 t (Nat.le_refl _)) (fun h => h2 (t + 1) (by omega) (by omega)) hA
  have hlen : (recsOf rows).length = rows.length + 1 := by simp [recsOf]
  have etk : (recsOf rows).take t = (rows.take t).map dat := by
    unfold recsOf
    rw [List.take_append_of_le_length (by rw [List.length_map]; omega), List.map_take]
  refine ⟨ss, m, x, hA, ?_⟩
  have hsc := scan_rows (finErr x) (rows.take t) [] [] [] 0 0 (by rw [List.length_nil, List.length_take]; have := hr.1; omega)
  rw [List.append_nil] at hsc
  rw [e1, etk, hsc, List.nil_append]
  show ([], 0, finErr x (rows.take t).length) = _
  have hfin : finErr x (rows.take t).length = 32 := by
    unfold finErr
    rcases hx with ⟨rfl, hp⟩ | ⟨rfl, _⟩
    · have ht0 : 0 < t := by
        rcases Nat.eq_zero_or_pos t with e | e
        · rw [e, plen_zero] at hp; omega
        · exact e
      rw [if_pos ⟨rfl, by rw [List.length_take]; omega⟩]
    · rw [if_neg (fun h => by have := h.1; cases this)]
  rw [hfin]

theorem scan_nil : ScanIs [] [] 0 0 := ⟨_, _, _, .none, rfl⟩

/-- P4.4: batches cut anywhere. -/
theorem scan_cut {l : List (List (List UInt8))} (hl : ∀ rows ∈ l, okRows rows) {k t : Nat} (hk : k ≤ (bputs l).length) (ht : t ≤ l.length) (h1 : blen l t ≤ k) (h2 : t < l.length → k < blen l (t + 1)) :
    ∃ x, ScanIs ((bputs l).take k) (l.take t) (blen l t) x ∧ ((x = 0 ∧ blen l t = k) ∨ (x = 32 ∧ ¬ blen l t = k)) := by
  have hlt : ∀ rows ∈ l.take t, okRows rows := fun rows h => hl rows (List.mem_of_mem_take h)
  have esp : bputs l = bputs (l.take t) ++ bputs (l.drop t) := by rw [← bputs_append, List.take_append_drop]
  have e : (bputs l).take k = bputs (l.take t) ++ (bputs (l.drop t)).take (k - blen l t) := by
    rw [esp, List.take_append]
    congr 1
    exact List.take_of_length_le h1
  rw [e]
  have hfin : ∀ x, ScanIs ((bputs (l.drop t)).take (k - blen l t)) [] 0 x → ScanIs (bputs (l.take t) ++ (bputs (l.drop t)).take (k - blen l t)) (l.take t) (blen l t) x := fun x hx => by
    have := scan_behind hlt hx
    rwa [List.append_nil, Nat.add_zero] at this
  by_cases htl : t < l.length
  · have hx : l[t]? = some l[t] := List.getElem?_eq_getElem htl
    have hk2 := h2 htl
    rw [blen_succ l hx] at hk2
    have hri := hl _ (List.mem_of_getElem? hx)
    have ed : l.drop t = l[t] :: l.drop (t + 1) := List.drop_eq_getElem_cons htl
    generalize l[t] = rows at *
    have er : (bputs (l.drop t)).take (k - blen l t) = (bput rows).take (k - blen l t) := by
      have : bputs (rows :: l.drop (t + 1)) = bput rows ++ bputs (l.drop (t + 1)) := by
        have h : rows :: l.drop (t + 1) = [rows] ++ l.drop (t + 1) := rfl
        rw [h, bputs_append, bputs_one]
      rw [ed, this, List.take_append_of_le_length (by omega)]
    rw [er] at hfin ⊢
    by_cases hz : k - blen l t = 0
    · refine ⟨0, hfin 0 ?_, .inl ⟨rfl, by omega⟩⟩
      rw [hz, List.take_zero]
      exact scan_nil
    · exact ⟨32, hfin 32 (scan_part hri (by omega) (by omega)), .inr ⟨rfl, by omega⟩⟩
  · have et : t = l.length := by omega
    refine ⟨0, hfin 0 ?_, .inl ⟨rfl, ?_⟩⟩
    · rw [et, List.drop_length, bputs_nil, List.take_nil]
      exact scan_nil
    · rw [et, blen_all] at h1 ⊢
      omega

/-- P4.2: a commit that tells another number. -/
theorem scan_mixed {rows : List (List UInt8)} (hr : okRows rows) {n : Nat} (hn : n < 65536) (hne : n ≠ rows.length) (more : List UInt8) : ScanIs (puts (rows.map dat) ++ (commit n).put ++ more) [] 0 34 := by
  have hrr : ∀ r ∈ rows.map dat ++ [commit n], r.right := by
    intro r h
    rcases List.mem_append.1 h with h | h
    · obtain ⟨d, hd, rfl⟩ := List.mem_map.1 h
      exact dat_right (hr.2 d hd)
    · rw [List.mem_singleton] at h
      rw [h]
      exact commit_right n
  have e : puts (rows.map dat) ++ (commit n).put = puts (rows.map dat ++ [commit n]) := (puts_snoc _ _).symm
  obtain ⟨ss, m, x, hA⟩ := AllIs.some (puts (rows.map dat) ++ (commit n).put ++ more)
  refine ⟨ss, m, x, hA, ?_⟩
  rw [e] at hA
  obtain ⟨ts, _, e1, _, _⟩ := AllIs.behind hrr hA
  rw [e1, List.append_assoc, scan_rows _ rows _ [] [] 0 0 (by rw [List.length_nil]; have := hr.1; omega), List.nil_append]
  show scanGo _ (commit n :: ts) [] rows _ 0 = _
  have hk : (commit n).k ≠ 1 := (by decide : (2 : UInt8) ≠ 1)
  have hle : le (commit n).d = n := le_two hn
  rw [scanGo, if_neg hk, if_pos (.inr (.inr (by rw [hle]; exact hne)))]
end Go.Proofs.Ytflfiobicapopaa

namespace Go.Proofs.Ytflfiobicapopaa
open Go.RowKit

theorem two_four (n : Nat) : (four n).take 2 = two n := rfl
theorem bputErr_few {rows : List (List UInt8)} (h : rows.length < 1 ∨ 1024 < rows.length) : bputErr rows = 34 := if_pos h
theorem bput_none {rows : List (List UInt8)} {x : Int} (h : bputErr rows = x) (hx : x ≠ 0) : bputOf rows = [] := if_neg (by rw [h]; exact hx)
theorem bputErr_long {rows : List (List UInt8)} (h : 1 ≤ rows.length ∧ rows.length ≤ 1024) {r : List UInt8} (hr : r ∈ rows) (hl : 4096 < r.length) : bputErr rows = 31 := by
  unfold bputErr
  rw [if_neg (by omega), if_neg (fun h => by have := h r hr; omega)]
theorem fresh_nil (w w' : World) (hb : Below w.heap.size w w') : FreshO w w' (.slice none 0 0) [] := ⟨⟨.inl ⟨rfl, rfl⟩, fun k hk => (by cases hk), hb⟩, World.ownsRow_nil _ _ _ _⟩
theorem map_take_succ {rows : List (List UInt8)} {j : Nat} {x : List UInt8} (hx : rows[j]? = some x) : (rows.take (j + 1)).map dat = (rows.take j).map dat ++ [dat x] := by
  obtain ⟨hj, rfl⟩ := List.getElem?_eq_some_iff.1 hx
  rw [List.take_succ_eq_append_getElem hj, List.map_append]; rfl
theorem dats_len {rows : List (List UInt8)} (h : ∀ r ∈ rows, r.length ≤ 4096) : (puts (rows.map dat)).length ≤ 4105 * rows.length := by
  induction rows with
  | nil => simp [puts]
  | cons r rows ih =>
    have h1 := h r (List.mem_cons_self ..)
    have h2 := ih fun r' hr' => h r' (List.mem_cons_of_mem _ hr')
    rw [List.map_cons, puts_cons, List.length_append, put_len, List.length_cons]
    show 9 + r.length + _ ≤ _
    omega

/-- The first two of four bytes. -/
theorem slice_two {w : World} {a : Option Addr} {c n : Nat} (hb : Bytes w (.slice a (four n).length c) (four n)) : ∃ sa sc, Bytes w (.slice sa 2 sc) (two n) ∧ (∀ W : World, (Instr.slice 49 (.slice a (four n).length c) none (some (.int .i64 2)) none).run Try.prog W = .ok (.slice sa 2 sc) W) ∧ (∀ W : World, (Instr.sliceAt 49 (.slice a (four n).length c) none (some (.int .i64 2)) none).run Try.prog W = .ok (.slice sa 2 sc) W) := by
  obtain ⟨sa, sc, h1, h2, h3⟩ := slice_to (h := 2) hb (by show 2 ≤ 4; omega)
  exact ⟨sa, sc, h1, h2, h3⟩


end Go.Proofs.Ytflfiobicapopaa

namespace Go.Proofs.Ytflfiobicapopaa
open Go.RowKit

theorem infoRow0 : (Try.prog.info? 49).map (fun i => (i.zero, i.size, i.bytes)) = some (some (.slice none 0 0), 1, 24) := by kernel_rfl
theorem infoRows0 : (Try.prog.info? 23).map (fun i => (i.zero, i.size, i.bytes)) = some (some (.slice none 0 0), 1, 24) := by kernel_rfl

/-- A row of ours, of rows that were there in w. -/
structure RowsO (w : World) (v : Value) (rows : List (List UInt8)) (W : World) : Prop where
  own : ∃ vs, W.ownsRow 0 49 1 v rows.length vs ∧ ∀ (i : Nat) x, rows[i]? = some x → ∃ u, vs[i]? = some u ∧ Bytes w u x
  new : ∀ k, v.ownBlock = some k → w.heap.size ≤ k
theorem RowsO.start (w : World) (W : World) : RowsO w (.slice none 0 0) [] W := ⟨⟨[], World.ownsRow_nil _ _ _ _, fun i x hx => (by cases hx)⟩, fun k hk => (by cases hk)⟩
theorem RowsO.keep {w W W' : World} {v : Value} {rows : List (List UInt8)} (h : RowsO w v rows W) (hk : ∀ k, v.ownBlock = some k → k < W.heap.size → W'.heap[k]? = W.heap[k]?) : RowsO w v rows W' := by
  obtain ⟨⟨vs, h1, h2⟩, h3⟩ := h
  exact ⟨⟨vs, row_keeps h1 fun k e => hk k e (h1.lt k e).2, h2⟩, h3⟩
theorem RowsO.lt {w W : World} {v : Value} {rows : List (List UInt8)} (h : RowsO w v rows W) : ∀ k, v.ownBlock = some k → k < W.heap.size := by
  obtain ⟨⟨vs, h1, _⟩, _⟩ := h
  exact fun k hk => (h1.lt k hk).2
theorem row_at {α : Type} {E : World → Value → α → Prop} {W : World} {e : TypeId} {v : Value} {xs : List α} {vs : List Value} (h1 : W.ownsRow 0 e 1 v xs.length vs) (h2 : ∀ (i : Nat) x, xs[i]? = some x → ∃ u, vs[i]? = some u ∧ E W u x) : ListAt E W v xs := by
  rcases h1.2 with ⟨rfl, h0⟩ | ⟨g, cap, cur, rfl, _, _, h4, _⟩
  · exact .inl ⟨⟨_, _, rfl⟩, List.eq_nil_of_length_eq_zero h0⟩
  · refine .inr ⟨g, 0, cap, rfl, h4, fun i x hx => ?_⟩
    obtain ⟨u, e1, e2⟩ := h2 i x hx
    have hc := h1.cells (g := g) rfl _ _ e1
    rw [Addr.add_mid] at hc
    exact ⟨u, hc, e2⟩
theorem RowsO.rowsAt {w W : World} {v : Value} {rows : List (List UInt8)} (h : RowsO w v rows W) (hb : Below w.heap.size w W) : RowsAt W v rows := by
  obtain ⟨⟨vs, h1, h2⟩, _⟩ := h
  exact row_at h1 fun i x hx => by obtain ⟨u, e1, e2⟩ := h2 i x hx; exact ⟨u, e1, e2.later hb⟩
theorem RowsO.form {w W : World} {v : Value} {rows : List (List UInt8)} (h : RowsO w v rows W) : ∃ a c, v = .slice a rows.length c := by
  obtain ⟨⟨vs, h1, _⟩, _⟩ := h
  rcases h1.2 with ⟨rfl, h0⟩ | ⟨g, cap, cur, rfl, _⟩
  · exact ⟨_, _, by rw [h0]⟩
  · exact ⟨_, _, rfl⟩
/-- A row is appended. -/
theorem RowsO.snoc {w W' : World} {v' : Value} {rows : List (List UInt8)} {d : List UInt8} {u : Value} {vs : List Value} (h2 : ∀ (i : Nat) x, rows[i]? = some x → ∃ u, vs[i]? = some u ∧ Bytes w u x) (hl : vs.length = rows.length) (hu : Bytes w u d) (r1 : W'.ownsRow 0 49 1 v' (rows.length + 1) (vs ++ [u])) (hn : ∀ k, v'.ownBlock = some k → w.heap.size ≤ k) : RowsO w v' (rows ++ [d]) W' := by
  refine ⟨⟨vs ++ [u], by rw [List.length_append, List.length_singleton]; exact r1, fun i x hx => ?_⟩, hn⟩
  by_cases hi : i < rows.length
  · rw [List.getElem?_append_left hi] at hx
    obtain ⟨u', e1, e2⟩ := h2 i x hx
    exact ⟨u', by rw [List.getElem?_append_left (by omega)]; exact e1, e2⟩
  · have hi2 : i = rows.length := by have := (List.getElem?_eq_some_iff.1 hx).1; rw [List.length_append, List.length_singleton] at this; omega
    rw [hi2, List.getElem?_append_right (Nat.le_refl _), Nat.sub_self] at hx
    cases hx
    exact ⟨u, by rw [hi2, ← hl, List.getElem?_append_right (Nat.le_refl _), Nat.sub_self]; rfl, hu⟩

/-- Batches that are told, and rows that are kept, all ours, of rows that were there in w. -/
structure ScanSt (w : World) (vo : Value) (out : List (List (List UInt8))) (vk : Value) (kept : List (List UInt8)) (W : World) : Prop where
  bb : Below w.heap.size w W
  rows : RowsO w vk kept W
  outs : ∃ vs, W.ownsRow 0 23 1 vo out.length vs ∧ ∀ (i : Nat) x, out[i]? = some x → ∃ u, vs[i]? = some u ∧ RowsO w u x W ∧ ∀ k, u.ownBlock = some k → vk.ownBlock ≠ some k
  new : ∀ k, vo.ownBlock = some k → w.heap.size ≤ k
theorem ScanSt.start (w : World) : ScanSt w (.slice none 0 0) [] (.slice none 0 0) [] w := ⟨Below.refl _ w, RowsO.start w w, ⟨[], World.ownsRow_nil _ _ _ _, fun i x hx => (by cases hx)⟩, fun k hk => (by cases hk)⟩
theorem ScanSt.later {w W W' : World} {vo vk : Value} {out : List (List (List UInt8))} {kept : List (List UInt8)} (h : ScanSt w vo out vk kept W) (hb : Below W.heap.size W W') : ScanSt w vo out vk kept W' := by
  obtain ⟨vs, h1, h2⟩ := h.outs
  exact ⟨h.bb.trans (hb.mono h.bb.size), h.rows.keep fun k _ hk => hb.block k hk, ⟨vs, row_keeps h1 fun k e => hb.block k (h1.lt k e).2, fun i x hx => by
    obtain ⟨u, e1, e2, e3⟩ := h2 i x hx
    exact ⟨u, e1, e2.keep fun k _ hk => hb.block k hk, e3⟩⟩, h.new⟩
theorem ScanSt.alloc {w W : World} {vo vk : Value} {out : List (List (List UInt8))} {kept : List (List UInt8)} (h : ScanSt w vo out vk kept W) (o : Obj) : ScanSt w vo out vk kept (W.alloc o) := h.later ((Below.refl _ W).alloc (Nat.le_refl _) o)
theorem ScanSt.batches {w W : World} {vo vk : Value} {out : List (List (List UInt8))} {kept : List (List UInt8)} (h : ScanSt w vo out vk kept W) : BatchesAt W vo out := by
  obtain ⟨vs, h1, h2⟩ := h.outs
  exact row_at h1 fun i x hx => by obtain ⟨u, e1, e2, _⟩ := h2 i x hx; exact ⟨u, e1, e2.rowsAt h.bb⟩
theorem ScanSt.formO {w W : World} {vo vk : Value} {out : List (List (List UInt8))} {kept : List (List UInt8)} (h : ScanSt w vo out vk kept W) : ∃ a c, vo = .slice a out.length c := by
  obtain ⟨vs, h1, _⟩ := h.outs
  rcases h1.2 with ⟨rfl, h0⟩ | ⟨g, cap, cur, rfl, _⟩
  · exact ⟨_, _, by rw [h0]⟩
  · exact ⟨_, _, rfl⟩
/-- Blocks of unlike types are apart. -/
theorem own_apart {W : World} {e1 e2 : TypeId} {v1 v2 : Value} {n1 n2 : Nat} {xs1 xs2 : List Value} (h1 : W.ownsRow 0 e1 1 v1 n1 xs1) (h2 : W.ownsRow 0 e2 1 v2 n2 xs2) (hne : e1 ≠ e2) : ∀ k, v1.ownBlock = some k → v2.ownBlock ≠ some k := by
  intro k hk hk2
  rcases h1.2 with ⟨rfl, _⟩ | ⟨g, c, cur, rfl, _, hg, _⟩
  · cases hk
  rcases h2.2 with ⟨rfl, _⟩ | ⟨g', c', cur', rfl, _, hg', _⟩
  · cases hk2
  simp [Value.ownBlock] at hk hk2
  subst hk hk2
  rw [hg] at hg'
  simp only [Option.some.injEq, Obj.cells.injEq] at hg'
  exact hne hg'.2.1

/-- 'kept = append(kept, d)'. -/
theorem wpList_append_kept {w W : World} {ops : Array Oper} {rest : List Oper} {op : Oper} {a : Act} {Q : Exit → Act → World → Prop}
    (hg : op.guard = none) (s x : Operand) (hop : op.op = Op.call { callee := Callee.builtin Builtin.append, args := #[s, x], argTypes := #[23, 23] })
    (vo vk u : Value) (out : List (List (List UInt8))) (kept : List (List UInt8)) (d : List UInt8) (g cap : Nat) (hsv : a.eval s = vk) (hS : ScanSt w vo out vk kept W) (hx : a.eval x = .slice (some ⟨g, 0, none⟩) 1 cap)
    (h0 : W.cell? ⟨g, 0, none⟩ = some u) (hu1 : u.oneCell' = true) (hu : Bytes w u d) (hl : kept.length ≤ 1048576)
    (hK : ∀ v' W', ScanSt w vo out v' (kept ++ [d]) W' → wpList Try.prog ops Q rest (a.put op.dst v') W') :
    wpList Try.prog ops Q (op :: rest) a W := by
  obtain ⟨ti, hti, hy0, hy1, hy2⟩ := info_parts infoRow0
  obtain ⟨⟨vs, h1, h2⟩, hnew⟩ := hS.rows
  obtain ⟨ws, o1, o2⟩ := hS.outs
  have hvl : vs.length = kept.length := by have := h1.1; omega
  refine wpList_append_own_at W hg s x 23 hop 0 49 ti (.slice none 0 0) 1 24 Try.underlying23 hti hy0 hy1 hy2 rfl (by decide) vk _ _ hsv h1 ⟨g, 0, none⟩ 1 cap [u] hx rfl (fun j u' hj => by
    match j, hj with
    | 0, hj => cases hj; exact h0) (fun u' hu' => by rw [List.mem_singleton] at hu'; rw [hu']; exact hu1) (by unfold maxLen; omega) (by omega) (Nat.zero_le _) ?_
  intro v' W' r1 r2 _ r3
  have hn' : ∀ k, v'.ownBlock = some k → w.heap.size ≤ k := fun k hk => by
    rcases r3 with e | e
    · exact hnew k (by rw [← e]; exact hk)
    · rw [e] at hk; cases hk; exact hS.bb.size
  refine hK v' W' ⟨hS.bb.grown r2 hS.bb.size hnew, RowsO.snoc h2 hvl hu r1 hn', ⟨ws, row_keeps o1 fun k e => r2.block k (o1.lt k e).2 fun e' => own_apart o1 h1 (by decide) k e e'.symm, fun i x' hx' => ?_⟩, hS.new⟩
  obtain ⟨u', e1, e2, e3⟩ := o2 i x' hx'
  refine ⟨u', e1, e2.keep fun k e hk => r2.block k hk fun e' => e3 k e e'.symm, fun k e e' => ?_⟩
  rcases r3 with e4 | e4
  · exact e3 k e (by rw [← e4]; exact e')
  · rw [e4] at e'
    cases e'
    have := e2.lt _ e
    omega
/-- 'out = append(out, kept)', and then nothing is kept. -/
theorem wpList_append_out {w W : World} {ops : Array Oper} {rest : List Oper} {op : Oper} {a : Act} {Q : Exit → Act → World → Prop}
    (hg : op.guard = none) (s x : Operand) (hop : op.op = Op.call { callee := Callee.builtin Builtin.append, args := #[s, x], argTypes := #[33, 33] })
    (vo vk : Value) (out : List (List (List UInt8))) (kept : List (List UInt8)) (g cap : Nat) (hsv : a.eval s = vo) (hS : ScanSt w vo out vk kept W) (hx : a.eval x = .slice (some ⟨g, 0, none⟩) 1 cap)
    (h0 : W.cell? ⟨g, 0, none⟩ = some vk) (hu1 : vk.oneCell' = true) (hl : out.length ≤ 1048576)
    (hK : ∀ v' W', ScanSt w v' (out ++ [kept]) (.slice none 0 0) [] W' → wpList Try.prog ops Q rest (a.put op.dst v') W') :
    wpList Try.prog ops Q (op :: rest) a W := by
  obtain ⟨ti, hti, hy0, hy1, hy2⟩ := info_parts infoRows0
  obtain ⟨ws, o1, o2⟩ := hS.outs
  obtain ⟨⟨vs, h1, h2⟩, hnew⟩ := hS.rows
  have hwl : ws.length = out.length := by have := o1.1; omega
  refine wpList_append_own_at W hg s x 33 hop 0 23 ti (.slice none 0 0) 1 24 Try.underlying33 hti hy0 hy1 hy2 rfl (by decide) vo _ _ hsv o1 ⟨g, 0, none⟩ 1 cap [vk] hx rfl (fun j u' hj => by
    match j, hj with
    | 0, hj => cases hj; exact h0) (fun u' hu' => by rw [List.mem_singleton] at hu'; rw [hu']; exact hu1) (by unfold maxLen; omega) (by omega) (Nat.zero_le _) ?_
  intro v' W' r1 r2 _ r3
  have hkp : ∀ (u : Value) (x : List (List UInt8)), RowsO w u x W → RowsO w u x W' := fun u x hR => by
    have hR2 := hR
    obtain ⟨⟨us, g1, _⟩, _⟩ := hR
    exact hR2.keep fun k e hk => r2.block k hk fun e' => own_apart g1 o1 (by decide) k e e'.symm
  refine hK v' W' ⟨hS.bb.grown r2 hS.bb.size hS.new, RowsO.start w W', ⟨ws ++ [vk], by rw [List.length_append, List.length_singleton]; exact r1, fun i x' hx' => ?_⟩, fun k hk => ?_⟩
  · by_cases hi : i < out.length
    · rw [List.getElem?_append_left hi] at hx'
      obtain ⟨u', e1, e2, e3⟩ := o2 i x' hx'
      exact ⟨u', by rw [List.getElem?_append_left (by omega)]; exact e1, hkp u' x' e2, fun k e e' => by cases e'⟩
    · have hi2 : i = out.length := by have := (List.getElem?_eq_some_iff.1 hx').1; rw [List.length_append, List.length_singleton] at this; omega
      rw [hi2, List.getElem?_append_right (Nat.le_refl _), Nat.sub_self] at hx'
      cases hx'
      exact ⟨vk, by rw [hi2, ← hwl, List.getElem?_append_right (Nat.le_refl _), Nat.sub_self]; rfl, hkp vk kept hS.rows, fun k e e' => by cases e'⟩
  · rcases r3 with e | e
    · exact hS.new k (by rw [← e]; exact hk)
    · rw [e] at hk; cases hk; exact hS.bb.size
end Go.Proofs.Ytflfiobicapopaa

namespace Go.Proofs.Ytflfiobicapopaa
open Go.RowKit

/-- What Scan answers, in memory. -/
def ScanAt (w : World) (b : List UInt8) (e : Ending) (w' : World) : Prop := ∃ v bs n x, e = .returned (.tuple #[v, .int .i64 ((n : Nat) : Int), .int .i64 x]) ∧ ScanIs b bs n x ∧ BatchesAt w' v bs ∧ Below w.heap.size w w'

theorem recs_at {w : World} {a : Option Addr} {n c : Nat} {rs : List RecD} (h : RecsAt w (.slice a n c) rs) (hl : rs.length = n) {j : Nat} {r : RecD} (hr : rs[j]? = some r) : ∃ b o a' n' c', a = some ⟨b, o, none⟩ ∧ w.cell? ⟨b, o + 2 * j, none⟩ = some (.int .u8 (r.k.toNat : Nat)) ∧ w.cell? ⟨b, o + 2 * j + 1, none⟩ = some (.slice a' n' c') ∧ Bytes w (.slice a' n' c') r.d := by
  obtain ⟨hj, rfl⟩ := List.getElem?_eq_some_iff.1 hr
  obtain ⟨b, o, a', n', c', h1, h2, h3, h4⟩ := h.at (i := j) (by omega) hl
  have e : rs.getD j ⟨0, []⟩ = rs[j] := by rw [List.getD_eq_getElem?_getD, List.getElem?_eq_getElem hj]; rfl
  rw [e] at h2 h4
  exact ⟨b, o, a', n', c', h1, h2, h3, h4⟩
theorem puts_few (rs : List RecD) : rs.length ≤ (puts rs).length := by
  induction rs with
  | nil => simp [puts]
  | cons r rs ih => rw [puts_cons, List.length_append, put_len, List.length_cons]; omega
theorem le_pair {d : List UInt8} (h : d.length = 2) : ((d.getD 0 0).toNat : Int) + 256 * ((d.getD 1 0).toNat : Int) = ((le d : Nat) : Int) := by
  match d, h with
  | [x, y], _ =>
    show (x.toNat : Int) + 256 * (y.toNat : Int) = ((x.toNat + 256 * (y.toNat + 256 * 0) : Nat) : Int)
    omega


end Go.Proofs.Ytflfiobicapopaa

namespace Go.Proofs.Ytflfiobicapopaa
open Go.RowKit

/-- Bytes in rows of 4096, the last one as long as what is left. -/
def CutIs (b : List UInt8) (rows : List (List UInt8)) : Prop := ∃ out last, rows = out ++ [last] ∧ b = out.flatten ++ last ∧ (∀ x ∈ out, x.length = 4096) ∧ last.length ≤ 4096 ∧ (last ≠ [] ∨ out = [])
theorem flat_len {out : List (List UInt8)} (h : ∀ x ∈ out, x.length = 4096) : out.flatten.length = 4096 * out.length := by
  induction out with
  | nil => rfl
  | cons x out ih =>
    rw [List.flatten_cons, List.length_append, h x (List.mem_cons_self ..), ih fun y hy => h y (List.mem_cons_of_mem _ hy), List.length_cons]
    omega
theorem flat_inj : ∀ {out out' : List (List UInt8)} {last last' : List UInt8}, (∀ x ∈ out, x.length = 4096) → (∀ x ∈ out', x.length = 4096) → out.length = out'.length → out.flatten ++ last = out'.flatten ++ last' → out = out' ∧ last = last'
  | [], [], _, _, _, _, _, h => ⟨rfl, h⟩
  | x :: out, y :: out', last, last', h1, h2, hl, h => by
    rw [List.flatten_cons, List.flatten_cons, List.append_assoc, List.append_assoc] at h
    have hx := h1 x (List.mem_cons_self ..)
    have hy := h2 y (List.mem_cons_self ..)
    obtain ⟨rfl, h3⟩ := List.append_inj h (by rw [hx, hy])
    obtain ⟨rfl, h4⟩ := flat_inj (fun z hz => h1 z (List.mem_cons_of_mem _ hz)) (fun z hz => h2 z (List.mem_cons_of_mem _ hz)) (by simpa using hl) h3
    exact ⟨rfl, h4⟩
theorem CutIs.same {b : List UInt8} {rows rows' : List (List UInt8)} (h : CutIs b rows) (h' : CutIs b rows') : rows = rows' := by
  obtain ⟨out, last, rfl, e1, h1, h2, h3⟩ := h
  obtain ⟨out', last', rfl, e2, g1, g2, g3⟩ := h'
  have l1 := congrArg List.length e1
  have l2 := congrArg List.length e2
  rw [List.length_append, flat_len h1] at l1
  rw [List.length_append, flat_len g1] at l2
  have p1 : 0 < last.length ∨ out.length = 0 := h3.imp (fun e => List.length_pos_iff.2 e) (fun e => by rw [e]; rfl)
  have p2 : 0 < last'.length ∨ out'.length = 0 := g3.imp (fun e => List.length_pos_iff.2 e) (fun e => by rw [e]; rfl)
  have hl : out.length = out'.length := by omega
  obtain ⟨rfl, rfl⟩ := flat_inj h1 g1 hl (e1.symm.trans e2)
  rfl


end Go.Proofs.Ytflfiobicapopaa

namespace Go.Proofs.Ytflfiobicapopaa
open Go.RowKit

/-- Bytes that are new since w, and that may be written. -/
def MineB (w : World) (W : World) (u : Value) (x : List UInt8) : Prop := Bytes W u x ∧ (x ≠ [] → ∀ k, u.ownBlock = some k → w.heap.size ≤ k) ∧ ∀ ad n c, u = .slice (some ad) n c → ∀ j, j < x.length → W.frozen? (ad.add j) = false
theorem ListAt.imp {α : Type} {E E' : World → Value → α → Prop} {w : World} {u : Value} {xs : List α} (h : ListAt E w u xs) (hE : ∀ v x, E w v x → E' w v x) : ListAt E' w u xs := by
  rcases h with h | ⟨b, o, c, hv, hl, hr⟩
  · exact .inl h
  · exact .inr ⟨b, o, c, hv, hl, fun i x hx => by obtain ⟨v, h1, h2⟩ := hr i x hx; exact ⟨v, h1, hE v x h2⟩⟩

theorem bytes_block {W : World} {g : Nat} {t : TypeId} {fr : Nat × Nat} {bs : List UInt8} {cs : Array Value} (h : W.heap[g]? = some (.cells cs t fr)) (hc : cs = (bs.map bv).toArray) (hl : bs.length ≤ 1000) : Bytes W (.slice (some ⟨g, 0, none⟩) bs.length bs.length) bs := by
  refine .inr ⟨⟨g, 0, none⟩, bs.length, rfl, Nat.le_refl _, by unfold maxLen; omega, fun j x hx => ?_⟩
  rw [Addr.add_mid, Nat.zero_add, cell_of_row _ _ _ _ _ _ h, hc]
  simpa using hx

/-- The chapter's batch, and its bytes. -/
def exRows : List (List UInt8) := [[97, 98]]
def exB4 : List UInt8 := bput exRows
theorem exB4_len : exB4.length = 22 := by decide +kernel
theorem exRows_ok : okRows exRows := ⟨by decide, by decide⟩
theorem exB4_err : bputErr exRows = 0 := bputErr_zero.2 exRows_ok
theorem exB4_of : bputOf exRows = exB4 := if_pos exB4_err
theorem ex_whole : ScanIs exB4 [exRows] 22 0 := by
  have h := scan_behind (l := [exRows]) (fun r hr => by rw [List.mem_singleton.1 hr]; exact exRows_ok) scan_nil
  rw [bputs_one, List.append_nil, Nat.add_zero] at h
  rw [show (bput exRows).length = 22 from exB4_len] at h
  exact h
theorem ex_torn : ScanIs (exB4.take 21) [] 0 32 := scan_part exRows_ok (by decide) (by rw [show (bput exRows).length = 22 from exB4_len]; decide)
theorem ex_twice : ScanIs (exB4 ++ exB4 ++ [1]) [exRows, exRows] 44 32 := by
  have h1 : ScanIs [1] [] 0 32 := by
    have e : takeErr [1] = 32 := by decide +kernel
    have s : AllIs [1] [] 0 32 := by have := AllIs.stop (b := [1]) (by simp) (by rw [e]; decide); rwa [e] at this
    exact ⟨[], 0, 32, s, rfl⟩
  have h := scan_behind (l := [exRows, exRows]) (fun r hr => by
    have : r = exRows := by simpa using hr
    rw [this]; exact exRows_ok) h1
  have e : bputs [exRows, exRows] = exB4 ++ exB4 := by
    have := bputs_snoc [exRows] exRows
    rw [bputs_one] at this
    exact this
  rw [e, List.length_append, exB4_len] at h
  exact h
/-- A commit alone. -/
def exC : List UInt8 := (commit 0).put
theorem exC_len : exC.length = 11 := by decide +kernel
theorem ex_commit : ScanIs exC [] 0 34 := by
  obtain ⟨ss, m, x, hA⟩ := AllIs.some exC
  refine ⟨ss, m, x, hA, ?_⟩
  have hp : exC = puts [commit 0] ++ [] := by rw [puts_one, List.append_nil]; rfl
  rw [hp] at hA
  obtain ⟨ts, _, e1, _, _⟩ := AllIs.behind (rs := [commit 0]) (fun r hr => by rw [List.mem_singleton.1 hr]; exact commit_right 0) hA
  rw [e1]
  have hk : (commit 0).k ≠ 1 := (by decide : (2 : UInt8) ≠ 1)
  show scanGo _ (commit 0 :: ts) [] [] 0 0 = _
  rw [scanGo, if_neg hk, if_pos (.inl rfl)]
theorem ex_cut {rows : List (List UInt8)} (h : CutIs [] rows) : rows = [[]] := by
  have h2 : CutIs [] [[]] := ⟨[], [], rfl, rfl, fun x hx => (by cases hx), by decide, .inr rfl⟩
  exact h.same h2
end Go.Proofs.Ytflfiobicapopaa
