/- Heads as bytes: what is written, what is read, which of two counts. Our own definitions; no statement of the seat is proved here. -/
import Derived.Test.YtoabpjdpdcpdlaaCrcMath
namespace Go.Proofs.Ytoabpjdpdcpdlaa

/-- A head: its serial, its epoch, which segment lives. -/
structure HeadD where
  s : Nat
  e : Nat
  l : Nat
/-- What a head of the program may hold. -/
def HeadD.fits (h : HeadD) : Prop := h.s < 18446744073709551616 ∧ h.e < 18446744073709551616 ∧ h.l < 256
def HeadD.right (h : HeadD) : Bool := h.s != 0 && (h.l == 0 || h.l == 1)
theorem HeadD.right_iff {h : HeadD} : h.right = true ↔ h.s ≠ 0 ∧ h.l ≤ 1 := by
  unfold HeadD.right
  rw [Bool.and_eq_true, Bool.or_eq_true, bne_iff_ne, beq_iff_eq, beq_iff_eq]
  omega

/-- A number's eight bytes, the lowest first. -/
def eight (n : Nat) : List UInt8 := (List.range 8).map fun j => UInt8.ofNat (n / 256 ^ j % 256)
theorem eight_len (n : Nat) : (eight n).length = 8 := by simp [eight]
theorem le_eight {n : Nat} (h : n < 18446744073709551616) : le (eight n) = n := by
  have u : ∀ x : Nat, (UInt8.ofNat (x % 256)).toNat = x % 256 := fun x => by rw [UInt8.toNat_ofNat']; exact Nat.mod_eq_of_lt (by simpa using Nat.mod_lt x (by decide))
  show (UInt8.ofNat (n / 256 ^ 0 % 256)).toNat + 256 * ((UInt8.ofNat (n / 256 ^ 1 % 256)).toNat + 256 * ((UInt8.ofNat (n / 256 ^ 2 % 256)).toNat + 256 * ((UInt8.ofNat (n / 256 ^ 3 % 256)).toNat + 256 * ((UInt8.ofNat (n / 256 ^ 4 % 256)).toNat + 256 * ((UInt8.ofNat (n / 256 ^ 5 % 256)).toNat + 256 * ((UInt8.ofNat (n / 256 ^ 6 % 256)).toNat + 256 * ((UInt8.ofNat (n / 256 ^ 7 % 256)).toNat + 256 * 0))))))) = n
  simp only [u]
  omega
theorem le_inj8 : ∀ (a b : List UInt8), a.length = b.length → le a = le b → a = b
  | [], [], _, _ => rfl
  | x :: a, y :: b, hl, h => by
    have hx := x.toNat_lt
    have hy := y.toNat_lt
    have h' : x.toNat + 256 * le a = y.toNat + 256 * le b := h
    have e1 : x.toNat = y.toNat := by omega
    have e2 : le a = le b := by omega
    rw [UInt8.toNat_inj.1 e1, le_inj8 a b (by simpa using hl) e2]
theorem eight_le {b : List UInt8} (h : b.length = 8) : eight (le b) = b := by
  have h1 := le_lt b
  rw [h] at h1
  exact le_inj8 _ _ (by rw [eight_len, h]) (le_eight (by omega))
theorem le8_lt {b : List UInt8} (h : b.length = 8) : le b < 18446744073709551616 := by
  have h1 := le_lt b
  rw [h] at h1
  omega

/-- A head's bytes. -/
def HeadD.bytes (h : HeadD) : List UInt8 := eight h.s ++ eight h.e ++ [UInt8.ofNat h.l, 0, 0, 0, 0, 0, 0, 0] ++ eight h.s
theorem HeadD.bytes_len (h : HeadD) : h.bytes.length = 32 := by simp [HeadD.bytes, eight_len]
/-- What Bytes answers. -/
def hbErr (h : HeadD) : Int := if h.right then 0 else 50
def hbOf (h : HeadD) : List UInt8 := if h.right then h.bytes else []
/-- What bytes say, whether they are a head or not. -/
def headOf (b : List UInt8) : HeadD := ⟨le (b.take 8), le ((b.drop 8).take 8), (b.getD 16 0).toNat⟩
def isHead (b : List UInt8) : Bool := b.length == 32 && (headOf b).right && (le ((b.drop 24).take 8) == (headOf b).s) && ((b.drop 17).take 7 == [0, 0, 0, 0, 0, 0, 0])
/-- What Read answers: the head, or none. -/
def readH (b : List UInt8) : HeadD := if isHead b then headOf b else ⟨0, 0, 0⟩

theorem isHead_iff {b : List UInt8} : isHead b = true ↔ b.length = 32 ∧ (headOf b).right = true ∧ le ((b.drop 24).take 8) = (headOf b).s ∧ (b.drop 17).take 7 = [0, 0, 0, 0, 0, 0, 0] := by
  unfold isHead
  simp only [Bool.and_eq_true, beq_iff_eq, and_assoc]

theorem parts_of (h : HeadD) : h.bytes.take 8 = eight h.s ∧ (h.bytes.drop 8).take 8 = eight h.e ∧ h.bytes.getD 16 0 = UInt8.ofNat h.l ∧ (h.bytes.drop 17).take 7 = [0, 0, 0, 0, 0, 0, 0] ∧ (h.bytes.drop 24).take 8 = eight h.s := by
  refine ⟨rfl, rfl, rfl, rfl, rfl⟩
/-- A right head's bytes are that head, read. -/
theorem read_bytes {h : HeadD} (hf : h.fits) (hr : h.right = true) : isHead h.bytes = true ∧ headOf h.bytes = h := by
  obtain ⟨p1, p2, p3, p4, p5⟩ := parts_of h
  have hl : (UInt8.ofNat h.l).toNat = h.l := by rw [UInt8.toNat_ofNat']; exact Nat.mod_eq_of_lt (by simpa using hf.2.2)
  have e : headOf h.bytes = h := by
    unfold headOf
    rw [p1, p2, p3, le_eight hf.1, le_eight hf.2.1, hl]
  refine ⟨isHead_iff.2 ⟨h.bytes_len, by rw [e]; exact hr, by rw [p5, e, le_eight hf.1], p4⟩, e⟩
/-- Whatever bytes are a head are its bytes. -/
theorem bytes_read {b : List UInt8} (h : isHead b = true) : (headOf b).fits ∧ (headOf b).right = true ∧ (headOf b).bytes = b := by
  obtain ⟨hl, hr, hs, hz⟩ := isHead_iff.1 h
  have l1 : (b.take 8).length = 8 := by rw [List.length_take]; omega
  have l2 : ((b.drop 8).take 8).length = 8 := by rw [List.length_take, List.length_drop]; omega
  have l3 : ((b.drop 24).take 8).length = 8 := by rw [List.length_take, List.length_drop]; omega
  refine ⟨⟨le8_lt l1, le8_lt l2, (b.getD 16 0).toNat_lt⟩, hr, ?_⟩
  have e3 : eight (headOf b).s = (b.drop 24).take 8 := by rw [← hs]; exact eight_le l3
  have e1 : eight (headOf b).s = b.take 8 := eight_le l1
  have e2 : eight (headOf b).e = (b.drop 8).take 8 := eight_le l2
  have e4 : [UInt8.ofNat (headOf b).l, 0, 0, 0, 0, 0, 0, 0] = (b.drop 16).take 8 := by
    have h16 : b.drop 16 = b.getD 16 0 :: b.drop 17 := by
      rw [List.drop_eq_getElem_cons (show 16 < b.length by omega), List.getD_eq_getElem?_getD, List.getElem?_eq_getElem (show 16 < b.length by omega)]; rfl
    rw [h16, List.take_succ_cons, hz]
    show UInt8.ofNat (b.getD 16 0).toNat :: _ = _
    rw [UInt8.ofNat_toNat]
  have split : b = b.take 8 ++ (b.drop 8).take 8 ++ (b.drop 16).take 8 ++ (b.drop 24).take 8 := by
    have s1 : b = b.take 8 ++ b.drop 8 := (List.take_append_drop 8 b).symm
    have s2 : b.drop 8 = (b.drop 8).take 8 ++ b.drop 16 := by have := List.take_append_drop 8 (b.drop 8); rw [List.drop_drop] at this; exact this.symm
    have s3 : b.drop 16 = (b.drop 16).take 8 ++ b.drop 24 := by have := List.take_append_drop 8 (b.drop 16); rw [List.drop_drop] at this; exact this.symm
    have s4 : b.drop 24 = (b.drop 24).take 8 := (List.take_of_length_le (by rw [List.length_drop]; omega)).symm
    calc b = b.take 8 ++ b.drop 8 := s1
      _ = b.take 8 ++ ((b.drop 8).take 8 ++ b.drop 16) := by rw [← s2]
      _ = b.take 8 ++ ((b.drop 8).take 8 ++ ((b.drop 16).take 8 ++ b.drop 24)) := by rw [← s3]
      _ = _ := by rw [← s4]; simp only [List.append_assoc]
  unfold HeadD.bytes
  rw [e2, e4]
  conv => rhs; rw [split]
  rw [e1, ← e3, e1]
theorem bytes_inj {g h : HeadD} (hg : g.fits) (hh : h.fits) (rg : g.right = true) (rh : h.right = true) (e : g.bytes = h.bytes) : g = h := by
  have h1 := (read_bytes hg rg).2
  have h2 := (read_bytes hh rh).2
  rw [e] at h1
  exact h1.symm.trans h2


/-- P5.4: any first bytes of the new one, with the rest of what was. -/
theorem torn {N O b : List UInt8} {k : Nat} (hk : k ≤ 32) (hN : N.length = 32) (hO : O.length = 32) (hn : N.drop 24 = N.take 8) (ho : O.drop 24 = O.take 8) (hne : N.take 8 ≠ O.take 8) (hb : b = N.take k ++ O.drop k) (h : isHead b = true) : b = N ∨ b = O := by
  obtain ⟨hl, _, hs, _⟩ := isHead_iff.1 h
  have h24 : b.drop 24 = b.take 8 := by
    have e1 : (b.drop 24).take 8 = b.take 8 := le_inj8 _ _ (by rw [List.length_take, List.length_take, List.length_drop]; omega) hs
    rwa [List.take_of_length_le (by rw [List.length_drop]; omega)] at e1
  have hNk : (N.take k).length = k := by rw [List.length_take]; omega
  by_cases hk24 : k ≤ 24
  · have d24 : b.drop 24 = O.drop 24 := by
      rw [hb, List.drop_append, hNk, List.drop_of_length_le (by omega), List.nil_append, List.drop_drop, show k + (24 - k) = 24 by omega]
    rw [d24, ho] at h24
    by_cases hk8 : 8 ≤ k
    · have t8 : b.take 8 = N.take 8 := by rw [hb, List.take_append_of_le_length (by omega), List.take_take, Nat.min_eq_left hk8]
      rw [t8] at h24
      exact absurd h24.symm hne
    · have t8 : b.take 8 = N.take k ++ (O.drop k).take (8 - k) := by rw [hb, List.take_append, hNk, List.take_of_length_le (by omega)]
      have o8 : O.take 8 = O.take k ++ (O.drop k).take (8 - k) := by
        have := List.take_add (l := O) (i := k) (j := 8 - k)
        rwa [show k + (8 - k) = 8 by omega] at this
      rw [t8, o8] at h24
      have e := (List.append_inj h24 (by rw [List.length_take, List.length_take]; omega)).1
      rw [← e, List.take_append_drop] at hb
      exact .inr hb
  · have t8 : b.take 8 = N.take 8 := by rw [hb, List.take_append_of_le_length (by omega), List.take_take, Nat.min_eq_left (by omega)]
    have d24 : b.drop 24 = (N.take k).drop 24 ++ O.drop k := by rw [hb, List.drop_append_of_le_length (by omega)]
    have n24 : N.drop 24 = (N.take k).drop 24 ++ N.drop k := by
      have e := List.take_append_drop k N
      have e2 : (N.take k ++ N.drop k).drop 24 = (N.take k).drop 24 ++ N.drop k := List.drop_append_of_le_length (by omega)
      rw [e] at e2
      exact e2
    rw [t8, ← hn, n24, d24] at h24
    have e := List.append_cancel_left h24
    rw [e, List.take_append_drop] at hb
    exact .inl hb
theorem bytes_ends (h : HeadD) : h.bytes.drop 24 = h.bytes.take 8 := rfl
theorem bytes_front (h : HeadD) : h.bytes.take 8 = eight h.s := rfl
theorem eight_inj {m n : Nat} (hm : m < 18446744073709551616) (hn : n < 18446744073709551616) (h : eight m = eight n) : m = n := by rw [← le_eight hm, ← le_eight hn, h]
/-- Of heads. -/
theorem torn_heads {old new : HeadD} (ho : old.fits) (hn : new.fits) (hne : old.s ≠ new.s) {k : Nat} (hk : k ≤ 32) (h : isHead (new.bytes.take k ++ old.bytes.drop k) = true) : new.bytes.take k ++ old.bytes.drop k = new.bytes ∨ new.bytes.take k ++ old.bytes.drop k = old.bytes :=
  torn hk new.bytes_len old.bytes_len (bytes_ends _) (bytes_ends _) (fun e => hne (eight_inj ho.1 hn.1 (by rw [← bytes_front, ← bytes_front]; exact e.symm))) rfl h
/-- Over noughts. -/
theorem torn_noughts {new : HeadD} (hn : new.fits) (h0 : new.s ≠ 0) {k : Nat} (hk : k ≤ 32) (h : isHead (new.bytes.take k ++ List.replicate (32 - k) 0) = true) : new.bytes.take k ++ List.replicate (32 - k) 0 = new.bytes := by
  have e : List.replicate (32 - k) (0 : UInt8) = (List.replicate 32 (0 : UInt8)).drop k := by rw [List.drop_replicate]
  rw [e] at h ⊢
  rcases torn (O := List.replicate 32 (0 : UInt8)) hk new.bytes_len (by simp) (bytes_ends _) rfl (fun e => h0 (eight_inj hn.1 (by decide) (by rw [← bytes_front, e]; rfl))) rfl h with h1 | h1
  · exact h1
  · rw [h1] at h
    exact absurd h (by decide +kernel)
/-- All of it, none of it. -/
theorem torn_all {old new : List UInt8} (hn : new.length = 32) (ho : old.length = 32) : new.take 32 ++ old.drop 32 = new ∧ new.take 0 ++ old.drop 0 = old := by
  refine ⟨?_, by simp⟩
  rw [List.take_of_length_le (by omega), List.drop_of_length_le (by omega), List.append_nil]

/-- Which of two slots counts: P5.2. -/
def pickH (zero one : List UInt8) : Option HeadD :=
  let x := isHead zero && (headOf zero).s % 2 == 0
  let y := isHead one && (headOf one).s % 2 == 1
  if (x && y && decide ((headOf one).s > (headOf zero).s)) || (y && !x) then some (headOf one) else if x then some (headOf zero) else none
end Go.Proofs.Ytoabpjdpdcpdlaa
