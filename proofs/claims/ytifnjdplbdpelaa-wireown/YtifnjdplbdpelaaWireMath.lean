/- The bytes of numbers and texts: mathematics. No statement of the seat is proved here. -/
import Derived.Test.YtifnjdplbdpelaaGen
namespace Go.Proofs.Ytifnjdplbdpelaa

/-- A number without a sign, in groups of seven bits. -/
def grp (u : Nat) : List UInt8 := if u < 128 then [UInt8.ofNat u] else UInt8.ofNat (128 + u % 128) :: grp (u / 128)
termination_by u
decreasing_by omega

theorem grp_low {u : Nat} (h : u < 128) : grp u = [UInt8.ofNat u] := by rw [grp, if_pos h]
theorem grp_high {u : Nat} (h : 128 ≤ u) : grp u = UInt8.ofNat (128 + u % 128) :: grp (u / 128) := by rw [grp, if_neg (by omega)]
theorem grp_ne (u : Nat) : grp u ≠ [] := by
  by_cases h : u < 128
  · rw [grp_low h]; simp
  · rw [grp_high (by omega)]; simp
theorem grp_pos (u : Nat) : 0 < (grp u).length := List.length_pos_iff.2 (grp_ne u)
theorem u8_toNat {x : Nat} (h : x < 256) : (UInt8.ofNat x).toNat = x := by simp; omega

/-- What groups are worth. -/
def val : List UInt8 → Nat
  | [] => 0
  | x :: l => x.toNat % 128 + 128 * val l
theorem val_grp (u : Nat) : val (grp u) = u := by
  induction u using Nat.strongRecOn with
  | ind u ih =>
    by_cases h : u < 128
    · rw [grp_low h]; simp only [val]; rw [u8_toNat (by omega)]; omega
    · rw [grp_high (by omega)]; simp only [val]; rw [ih _ (by omega), u8_toNat (by omega)]; omega
theorem grp_inj {u v : Nat} (h : grp u = grp v) : u = v := by rw [← val_grp u, h, val_grp]

/-- Groups: all but the last one have 128 more, and the last one is not 0, but for the number 0. -/
inductive Said : List UInt8 → Prop
  | last (x : UInt8) : x.toNat < 128 → Said [x]
  | more (x : UInt8) (l : List UInt8) : 128 ≤ x.toNat → Said l → val l ≠ 0 → Said (x :: l)
theorem said_grp (u : Nat) : Said (grp u) := by
  induction u using Nat.strongRecOn with
  | ind u ih =>
    by_cases h : u < 128
    · rw [grp_low h]; exact .last _ (by rw [u8_toNat (by omega)]; exact h)
    · rw [grp_high (by omega)]
      exact .more _ _ (by rw [u8_toNat (by omega)]; omega) (ih _ (by omega)) (by rw [val_grp]; omega)
theorem grp_val {l : List UInt8} (h : Said l) : grp (val l) = l := by
  induction h with
  | last x hx => simp only [val]; rw [show x.toNat % 128 + 128 * 0 = x.toNat by omega, grp_low hx, UInt8.ofNat_toNat]
  | more x l hx _ hv ih =>
    have hb := x.toNat_lt
    simp only [val]
    rw [grp_high (by omega), show (x.toNat % 128 + 128 * val l) / 128 = val l by omega, ih, show 128 + (x.toNat % 128 + 128 * val l) % 128 = x.toNat by omega, UInt8.ofNat_toNat]

/-- No number's groups are the begin of another's. -/
theorem grp_prefix {u v : Nat} {r s : List UInt8} (h : grp u ++ r = grp v ++ s) : u = v ∧ r = s := by
  induction u using Nat.strongRecOn generalizing v with
  | ind u ih =>
    have e : ∀ {x y : Nat}, x < 256 → y < 256 → UInt8.ofNat x = UInt8.ofNat y → x = y := fun hx hy h => by rw [← u8_toNat hx, h, u8_toNat hy]
    by_cases hu : u < 128 <;> by_cases hv : v < 128
    · rw [grp_low hu, grp_low hv] at h
      simp only [List.cons_append, List.nil_append, List.cons.injEq] at h
      exact ⟨e (by omega) (by omega) h.1, h.2⟩
    · rw [grp_low hu, grp_high (u := v) (by omega)] at h
      simp only [List.cons_append, List.nil_append, List.cons.injEq] at h
      have := e (by omega) (by omega) h.1
      omega
    · rw [grp_high (u := u) (by omega), grp_low hv] at h
      simp only [List.cons_append, List.nil_append, List.cons.injEq] at h
      have := e (by omega) (by omega) h.1
      omega
    · rw [grp_high (u := u) (by omega), grp_high (u := v) (by omega)] at h
      simp only [List.cons_append, List.cons.injEq] at h
      have h1 := e (by omega) (by omega) h.1
      obtain ⟨h2, h3⟩ := ih _ (by omega) h.2
      exact ⟨by omega, h3⟩

theorem grp_mono {u v : Nat} (h : u ≤ v) : (grp u).length ≤ (grp v).length := by
  induction u using Nat.strongRecOn generalizing v with
  | ind u ih =>
    by_cases hu : u < 128
    · rw [grp_low hu]; exact grp_pos v
    · rw [grp_high (by omega : 128 ≤ u), grp_high (by omega : 128 ≤ v)]
      have := ih (u / 128) (by omega) (v := v / 128) (by omega)
      simp only [List.length_cons]
      omega
theorem grp_length_le (k : Nat) : ∀ u, u < 128 ^ (k + 1) → (grp u).length ≤ k + 1 := by
  induction k with
  | zero => intro u h; rw [grp_low (by simpa using h)]; simp
  | succ k ih =>
    intro u h
    by_cases hu : u < 128
    · rw [grp_low hu]; simp
    · rw [grp_high (by omega), List.length_cons]
      have := ih (u / 128) (by rw [Nat.pow_succ] at h; exact Nat.div_lt_of_lt_mul (by omega))
      omega
theorem grp_ten {u : Nat} (h : u < 18446744073709551616) : (grp u).length ≤ 10 := grp_length_le 9 u (Nat.lt_of_lt_of_le h (by decide))

/-- The numbers of 64 bits. -/
def InR (n : Int) : Prop := -9223372036854775808 ≤ n ∧ n ≤ 9223372036854775807
/-- A number without a sign for n. -/
def zz (n : Int) : Nat := if n < 0 then (-2 * n - 1).toNat else (2 * n).toNat
def unz (u : Nat) : Int := if u % 2 = 1 then -((u / 2 : Nat) : Int) - 1 else ((u / 2 : Nat) : Int)
theorem unz_zz (n : Int) : unz (zz n) = n := by unfold unz zz; split <;> split <;> omega
theorem zz_unz (u : Nat) : zz (unz u) = u := by unfold unz zz; split <;> split <;> omega
theorem zz_lt {n : Int} (h : InR n) : zz n < 18446744073709551616 := by unfold InR at h; unfold zz; split <;> omega
theorem unz_in {u : Nat} (h : u < 18446744073709551616) : InR (unz u) := by unfold InR unz; split <;> omega
theorem zz_inj {m n : Int} (h : zz m = zz n) : m = n := by rw [← unz_zz m, h, unz_zz]

/-- A number's bytes. -/
def numB (n : Int) : List UInt8 := grp (zz n)
theorem numB_ten {n : Int} (h : InR n) : (numB n).length ≤ 10 := grp_ten (zz_lt h)
theorem numB_pos (n : Int) : 0 < (numB n).length := grp_pos _
theorem numB_prefix {m n : Int} {r s : List UInt8} (h : numB m ++ r = numB n ++ s) : m = n ∧ r = s := by
  obtain ⟨h1, h2⟩ := grp_prefix h
  exact ⟨zz_inj h1, h2⟩
theorem numB_far {a b : Int} (h : 0 ≤ a ∧ a ≤ b ∨ a < 0 ∧ b ≤ a) : (numB a).length ≤ (numB b).length := grp_mono (by unfold zz; split <;> split <;> omega)

/-- b begins with n's bytes, which are k. -/
structure Reads (b : List UInt8) (n : Int) (k : Nat) : Prop where
  inr : InR n
  len : k = (numB n).length
  eq : b = numB n ++ b.drop k
def NoNum (b : List UInt8) : Prop := ∀ n k, ¬ Reads b n k
theorem Reads.of {b r : List UInt8} {n : Int} (hn : InR n) (h : b = numB n ++ r) : Reads b n (numB n).length := ⟨hn, rfl, by rw [h]; simp⟩
theorem Reads.take {b : List UInt8} {n : Int} {k : Nat} (h : Reads b n k) : b.take k = numB n := by
  obtain ⟨_, rfl, he⟩ := h
  rw [he]; simp
theorem Reads.le {b : List UInt8} {n : Int} {k : Nat} (h : Reads b n k) : k ≤ b.length := by
  have := h.eq
  rw [h.len, this]; simp
theorem Reads.pos {b : List UInt8} {n : Int} {k : Nat} (h : Reads b n k) : 0 < k := by rw [h.len]; exact numB_pos n
theorem Reads.ten {b : List UInt8} {n : Int} {k : Nat} (h : Reads b n k) : k ≤ 10 := by rw [h.len]; exact numB_ten h.inr
theorem Reads.same {b : List UInt8} {m n : Int} {j k : Nat} (h : Reads b m j) (h' : Reads b n k) : m = n ∧ j = k := by
  have e := h.eq.symm.trans h'.eq
  obtain ⟨rfl, _⟩ := numB_prefix e
  exact ⟨rfl, by rw [h.len, h'.len]⟩
theorem Reads.append {b : List UInt8} {n : Int} {k : Nat} (h : Reads b n k) (r : List UInt8) : Reads (b ++ r) n k := by
  refine ⟨h.inr, h.len, ?_⟩
  rw [List.drop_append_of_le_length h.le, ← List.append_assoc, ← h.eq]
/-- Nothing less of a number's bytes is a number. -/
theorem noNum_take {n : Int} {i : Nat} (h : i < (numB n).length) : NoNum ((numB n).take i) := fun m k hr => by
  have h1 := hr.append ((numB n).drop i)
  rw [List.take_append_drop] at h1
  obtain ⟨rfl, _⟩ := numB_prefix ((List.append_nil (numB n)).trans h1.eq)
  have := hr.le
  rw [List.length_take, hr.len] at this
  omega

/-- Bytes before any that is less than 128. -/
def Highs (l : List UInt8) : Prop := ∀ x ∈ l, 128 ≤ x.toNat
theorem Said.form {l : List UInt8} (h : Said l) : ∃ p y, l = p ++ [y] ∧ Highs p ∧ y.toNat < 128 ∧ (p = [] ∨ y.toNat ≠ 0) := by
  induction h with
  | last x hx => exact ⟨[], x, rfl, fun _ h => (by cases h), hx, .inl rfl⟩
  | more x l hx hs hv ih =>
    obtain ⟨p, y, rfl, hp, hy, hz⟩ := ih
    refine ⟨x :: p, y, rfl, fun z hz => ?_, hy, .inr ?_⟩
    · rcases List.mem_cons.1 hz with rfl | h
      · exact hx
      · exact hp z h
    · rcases hz with rfl | hz
      · intro e; apply hv; simp [val, e]
      · exact hz
theorem val_snoc_ne : ∀ (p : List UInt8) (y : UInt8), y.toNat < 128 → y.toNat ≠ 0 → val (p ++ [y]) ≠ 0
  | [], y, h, hn => by simp only [List.nil_append, val]; omega
  | x :: p, y, h, hn => by have := val_snoc_ne p y h hn; simp only [List.cons_append, val]; omega
theorem said_of_form : ∀ (p : List UInt8) (y : UInt8), Highs p → y.toNat < 128 → (p = [] ∨ y.toNat ≠ 0) → Said (p ++ [y])
  | [], y, _, hy, _ => .last y hy
  | x :: p, y, hp, hy, hz => .more x (p ++ [y]) (hp x (by simp)) (said_of_form p y (fun z hz => hp z (by simp [hz])) hy (hz.elim (fun h => by cases h) .inr)) (val_snoc_ne p y hy (hz.elim (fun h => by cases h) id))
theorem val_append : ∀ (p q : List UInt8), val (p ++ q) = val p + 128 ^ p.length * val q
  | [], q => by simp [val]
  | x :: p, q => by rw [List.cons_append]; simp only [val]; rw [val_append p q, List.length_cons, Nat.pow_succ, Nat.mul_add, Nat.mul_comm (128 ^ p.length) 128, Nat.mul_assoc]; omega
theorem val_lt : ∀ (p : List UInt8), val p < 128 ^ p.length
  | [] => by simp [val]
  | x :: p => by have := val_lt p; simp only [val]; rw [List.length_cons, Nat.pow_succ]; omega
/-- Highs are parted from the first one that is less in one way. -/
theorem highs_same : ∀ {p q : List UInt8} {y z : UInt8} {r s : List UInt8}, Highs p → Highs q → y.toNat < 128 → z.toNat < 128 → p ++ y :: r = q ++ z :: s → p = q ∧ y = z ∧ r = s
  | [], [], y, z, r, s, _, _, _, _, h => by simpa using h
  | [], x :: q, y, z, r, s, _, hq, hy, _, h => by simp only [List.nil_append, List.cons_append, List.cons.injEq] at h; have := hq x (by simp); rw [← h.1] at this; omega
  | x :: p, [], y, z, r, s, hp, _, _, hz, h => by simp only [List.nil_append, List.cons_append, List.cons.injEq] at h; have := hp x (by simp); rw [h.1] at this; omega
  | x :: p, x' :: q, y, z, r, s, hp, hq, hy, hz, h => by
    simp only [List.cons_append, List.cons.injEq] at h
    obtain ⟨h1, h2, h3⟩ := highs_same (fun a ha => hp a (by simp [ha])) (fun a ha => hq a (by simp [ha])) hy hz h.2
    exact ⟨by rw [h.1, h1], h2, h3⟩
/-- What is read, as it stands. -/
theorem Reads.form {b : List UInt8} {n : Int} {k : Nat} (h : Reads b n k) : ∃ p y, b = p ++ y :: b.drop k ∧ k = p.length + 1 ∧ Highs p ∧ y.toNat < 128 ∧ (p = [] ∨ y.toNat ≠ 0) ∧ p ++ [y] = numB n := by
  obtain ⟨p, y, e, h1, h2, h3⟩ := (said_grp (zz n)).form
  have e' : numB n = p ++ [y] := e
  refine ⟨p, y, ?_, by rw [h.len, e']; simp, h1, h2, h3, e'.symm⟩
  have := h.eq
  rw [e', List.append_assoc] at this
  exact this
/-- No number: no byte ends it within ten. -/
theorem noNum_highs {b : List UInt8} {k : Nat} (h : Highs (b.take k)) (hk : k = 10 ∨ b.length ≤ k) : NoNum b := fun n j hr => by
  obtain ⟨p, y, e, ej, hp, hy, _⟩ := hr.form
  have hj : j ≤ k := hk.elim (fun e => by rw [e]; exact hr.ten) (Nat.le_trans hr.le)
  have : y ∈ b.take k := by
    rw [e, List.take_append, List.mem_append]
    refine .inr ?_
    rw [show k - p.length = (k - p.length - 1) + 1 by omega, List.take_succ_cons]
    simp
  have := h y this
  omega
/-- What ends at a byte is a number's, or there is none. -/
theorem noNum_zero {p r : List UInt8} {y : UInt8} (hp : Highs p) (hy : y.toNat = 0) (hne : p ≠ []) : NoNum (p ++ y :: r) := fun n j hr => by
  obtain ⟨q, z, e, _, hq, hz, h0, _⟩ := hr.form
  obtain ⟨rfl, rfl, _⟩ := highs_same hp hq (by omega) hz e
  rcases h0 with h0 | h0
  · exact hne h0
  · exact h0 hy
theorem noNum_big {p r : List UInt8} {y : UInt8} (hp : Highs p) (hy : 1 < y.toNat) (hy' : y.toNat < 128) (hl : p.length = 9) : NoNum (p ++ y :: r) := fun n j hr => by
  obtain ⟨q, z, e, _, hq, hz, h0, e2⟩ := hr.form
  obtain ⟨rfl, rfl, _⟩ := highs_same hp hq hy' hz e
  have h1 := zz_lt hr.inr
  have h2 : val (p ++ [y]) = zz n := by rw [e2]; exact val_grp _
  rw [val_append, hl] at h2
  simp only [val] at h2
  omega
theorem Reads.made {p r : List UInt8} {y : UInt8} (hp : Highs p) (hy : y.toNat < 128) (hz : p = [] ∨ y.toNat ≠ 0) (hl : p.length < 9 ∨ p.length = 9 ∧ y.toNat ≤ 1) : Reads (p ++ y :: r) (unz (val (p ++ [y]))) (p.length + 1) := by
  have hb : val (p ++ [y]) < 18446744073709551616 := by
    have h1 := val_lt p
    rw [val_append]
    simp only [val]
    rcases hl with hl | ⟨hl, h1y⟩
    · have h2 := Nat.pow_le_pow_right (n := 128) (by omega) (show p.length ≤ 8 by omega)
      have h3 : 128 ^ p.length * (y.toNat % 128 + 128 * 0) ≤ 128 ^ p.length * 127 := Nat.mul_le_mul_left _ (by omega)
      have h4 : 128 ^ p.length * 127 ≤ 128 ^ 8 * 127 := Nat.mul_le_mul_right _ h2
      have h5 : (128 ^ 8 : Nat) = 72057594037927936 := by decide
      omega
    · rw [hl] at h1 ⊢
      have h5 : (128 ^ 9 : Nat) = 9223372036854775808 := by decide
      rw [h5] at h1 ⊢
      omega
  have e : numB (unz (val (p ++ [y]))) = p ++ [y] := by unfold numB; rw [zz_unz, grp_val (said_of_form p y hp hy hz)]
  have := Reads.of (b := p ++ y :: r) (r := r) (unz_in hb) (by rw [e]; simp)
  rw [e] at this
  simpa using this

/-- A text's bytes. -/
def textB (s : List UInt8) : List UInt8 := numB s.length ++ s
/-- b begins with the bytes of the text s, of at most most bytes; its length has k. -/
structure ReadsT (b : List UInt8) (most : Int) (s : List UInt8) (k : Nat) : Prop where
  num : Reads b s.length k
  most : (s.length : Int) ≤ most
  eq : b.drop k = s ++ b.drop (k + s.length)
def NoText (b : List UInt8) (most : Int) : Prop := ∀ s k, ¬ ReadsT b most s k
theorem ReadsT.whole {b : List UInt8} {most : Int} {s : List UInt8} {k : Nat} (h : ReadsT b most s k) : b = textB s ++ b.drop (k + s.length) := by
  have h1 := h.num.eq
  rw [h.eq] at h1
  rw [textB, List.append_assoc]
  exact h1
theorem ReadsT.of {b r s : List UInt8} {most : Int} (hn : InR s.length) (hm : (s.length : Int) ≤ most) (h : b = textB s ++ r) : ReadsT b most s (numB s.length).length := by
  subst h
  refine ⟨Reads.of (r := s ++ r) hn (by simp [textB]), hm, ?_⟩
  simp [textB]
theorem ReadsT.same {b : List UInt8} {m m' : Int} {s t : List UInt8} {j k : Nat} (h : ReadsT b m s j) (h' : ReadsT b m' t k) : s = t ∧ j = k := by
  obtain ⟨h1, rfl⟩ := h.num.same h'.num
  have hl : s.length = t.length := by omega
  have e := h.eq.symm.trans h'.eq
  exact ⟨(List.append_inj e hl).1, rfl⟩
theorem ReadsT.le {b : List UInt8} {most : Int} {s : List UInt8} {k : Nat} (h : ReadsT b most s k) : k + s.length ≤ b.length := by
  have h1 := congrArg List.length h.eq
  have h2 := h.num.le
  simp only [List.length_drop, List.length_append] at h1
  omega
theorem ReadsT.append {b : List UInt8} {most : Int} {s : List UInt8} {k : Nat} (h : ReadsT b most s k) (r : List UInt8) : ReadsT (b ++ r) most s k := by
  refine ⟨h.num.append r, h.most, ?_⟩
  rw [List.drop_append_of_le_length h.num.le, List.drop_append_of_le_length h.le, ← List.append_assoc, ← h.eq]
theorem textB_prefix {s t r q : List UInt8} (h : textB s ++ r = textB t ++ q) : s = t ∧ r = q := by
  unfold textB at h
  rw [List.append_assoc, List.append_assoc] at h
  obtain ⟨h1, h2⟩ := numB_prefix h
  exact List.append_inj h2 (by omega)
theorem noText_take {s : List UInt8} {i : Nat} {most : Int} (h : i < (textB s).length) : NoText ((textB s).take i) most := fun t k hr => by
  have h1 := (hr.append ((textB s).drop i)).whole
  rw [List.take_append_drop] at h1
  obtain ⟨rfl, _⟩ := textB_prefix ((List.append_nil (textB s)).trans h1)
  have h2 := hr.le
  have h3 := hr.num.len
  rw [List.length_take] at h2
  rw [textB, List.length_append, ← h3] at h
  omega
theorem noText_most {s r : List UInt8} {most : Int} (hm : most < s.length) : NoText (textB s ++ r) most := fun t k hr => by
  obtain ⟨rfl, _⟩ := textB_prefix (hr.whole.symm)
  have := hr.most
  omega
theorem noText_of_noNum {b : List UInt8} {most : Int} (h : NoNum b) : NoText b most := fun _ _ hr => h _ _ hr.num
/-- What TakeText looks at. -/
theorem readsT_of {b : List UInt8} {most : Int} {n : Int} {k : Nat} (h : Reads b n k) (h0 : 0 ≤ n) (hm : n ≤ most) (hl : n ≤ b.length - k) : ReadsT b most ((b.drop k).take n.toNat) k := by
  have hkb := h.le
  have hlen : ((b.drop k).take n.toNat).length = n.toNat := by rw [List.length_take, List.length_drop]; omega
  have hc : (((b.drop k).take n.toNat).length : Int) = n := by rw [hlen]; omega
  refine ⟨by rw [hc]; exact h, by rw [hc]; exact hm, ?_⟩
  rw [hlen, ← List.drop_drop, List.take_append_drop]
theorem noText_of {b : List UInt8} {most : Int} {n : Int} {k : Nat} (h : Reads b n k) (hn : n < 0 ∨ most < n ∨ (b.length : Int) - k < n) : NoText b most := fun t j hr => by
  obtain ⟨h1, rfl⟩ := h.same hr.num
  have := hr.most
  have := hr.le
  omega
end Go.Proofs.Ytifnjdplbdpelaa
