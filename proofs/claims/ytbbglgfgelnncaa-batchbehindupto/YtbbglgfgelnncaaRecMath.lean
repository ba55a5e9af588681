/- Records as bytes: what is put, what is taken. Our own definitions; no statement of the seat is proved here. -/
import Derived.Test.YtbbglgfgelnncaaCrcMath
namespace Go.Proofs.Ytbbglgfgelnncaa

/-- A record: its kind, its bytes. -/
structure RecD where
  k : UInt8
  d : List UInt8

/-- A number's four bytes, the lowest first. -/
def four (n : Nat) : List UInt8 := [UInt8.ofNat (n % 256), UInt8.ofNat (n / 256 % 256), UInt8.ofNat (n / 65536 % 256), UInt8.ofNat (n / 16777216 % 256)]
def RecD.rest (r : RecD) : List UInt8 := r.k :: (four r.d.length ++ r.d)
/-- A record's bytes as written. -/
def RecD.put (r : RecD) : List UInt8 := four (sumB r.rest) ++ r.rest
/-- A right record. -/
def RecD.right (r : RecD) : Prop := (1 ≤ r.k.toNat ∧ r.k.toNat ≤ 2) ∧ r.d.length ≤ 4096

/-- What Put answers: the error, or 0. -/
def putErr (r : RecD) : Int := if r.k.toNat < 1 ∨ 2 < r.k.toNat then 30 else if 4096 < r.d.length then 31 else 0
/-- Why bytes begin with no record, or 0. -/
def takeErr (b : List UInt8) : Int :=
  if b.length < 9 then 32 else if 4096 < le ((b.drop 5).take 4) then 31 else if b.length < 9 + le ((b.drop 5).take 4) then 32
  else if sumB ((b.drop 4).take (5 + le ((b.drop 5).take 4))) ≠ le (b.take 4) then 33 else if (b.getD 4 0).toNat < 1 ∨ 2 < (b.getD 4 0).toNat then 30 else 0
/-- How many bytes the record that b begins with takes (0: none). -/
def takeLen (b : List UInt8) : Nat := if takeErr b = 0 then 9 + le ((b.drop 5).take 4) else 0
/-- The record that b begins with. -/
def takeRec (b : List UInt8) : RecD := if takeErr b = 0 then ⟨b.getD 4 0, (b.drop 9).take (le ((b.drop 5).take 4))⟩ else ⟨0, []⟩

theorem four_len (n : Nat) : (four n).length = 4 := rfl
theorem u8_of (n : Nat) (h : n < 256) : (UInt8.ofNat n).toNat = n := by rw [UInt8.toNat_ofNat']; exact Nat.mod_eq_of_lt (by simpa using h)
theorem le_four {n : Nat} (h : n < 4294967296) : le (four n) = n := by
  show (UInt8.ofNat (n % 256)).toNat + 256 * ((UInt8.ofNat (n / 256 % 256)).toNat + 256 * ((UInt8.ofNat (n / 65536 % 256)).toNat + 256 * ((UInt8.ofNat (n / 16777216 % 256)).toNat + 256 * 0))) = n
  rw [u8_of _ (by omega), u8_of _ (by omega), u8_of _ (by omega), u8_of _ (by omega)]
  omega
theorem le_take4_lt (b : List UInt8) : le (b.take 4) < 4294967296 := by
  have h := le_lt (b.take 4)
  have h2 : 2 ^ (8 * (b.take 4).length) ≤ 2 ^ 32 := Nat.pow_le_pow_right (by decide) (by rw [List.length_take]; omega)
  omega

theorem le_inj : ∀ (a b : List UInt8), a.length = b.length → le a = le b → a = b
  | [], [], _, _ => rfl
  | x :: a, y :: b, hl, h => by
    have hx := x.toNat_lt
    have hy := y.toNat_lt
    have h' : x.toNat + 256 * le a = y.toNat + 256 * le b := h
    have e1 : x.toNat = y.toNat := by omega
    have e2 : le a = le b := by omega
    rw [UInt8.toNat_inj.1 e1, le_inj a b (by simpa using hl) e2]
/-- Four bytes are those of their number. -/
theorem four_le (b : List UInt8) (h : b.length = 4) : four (le b) = b := by
  have h1 := le_lt b
  rw [h] at h1
  exact le_inj _ _ (by rw [h]; rfl) (le_four (by omega))

theorem rest_len (r : RecD) : r.rest.length = 5 + r.d.length := by
  show (four r.d.length ++ r.d).length + 1 = _
  rw [List.length_append, four_len]; omega
theorem put_len (r : RecD) : r.put.length = 9 + r.d.length := by
  unfold RecD.put
  rw [List.length_append, four_len, rest_len]; omega

theorem putErr_zero {r : RecD} : putErr r = 0 ↔ r.right := by
  unfold putErr RecD.right
  constructor
  · intro h
    split at h
    · cases h
    · split at h
      · cases h
      · omega
  · rintro ⟨h1, h2⟩
    rw [if_neg (by omega), if_neg (by omega)]

/-- What is put is taken, whatever stands behind. -/
theorem take_put (r : RecD) (hr : r.right) (more : List UInt8) : takeErr (r.put ++ more) = 0 ∧ takeLen (r.put ++ more) = 9 + r.d.length ∧ takeRec (r.put ++ more) = r := by
  have hl : (r.put ++ more).length = 9 + r.d.length + more.length := by rw [List.length_append, put_len]
  have e4 : (r.put ++ more).drop 4 = r.rest ++ more := rfl
  have e5 : ((r.put ++ more).drop 5).take 4 = four r.d.length := rfl
  have hd : r.d.length < 4294967296 := by have := hr.2; omega
  have en : le (((r.put ++ more).drop 5).take 4) = r.d.length := by rw [e5, le_four hd]
  have es : ((r.put ++ more).drop 4).take (5 + r.d.length) = r.rest := by rw [e4, ← rest_len, List.take_left]
  have et : (r.put ++ more).take 4 = four (sumB r.rest) := rfl
  have ek : (r.put ++ more).getD 4 0 = r.k := rfl
  have e9 : (r.put ++ more).drop 9 = r.d ++ more := rfl
  have h0 : takeErr (r.put ++ more) = 0 := by
    unfold takeErr
    rw [en, es, et, le_four (sum_lt _), ek]
    have h1 := hr.1
    have h2 := hr.2
    rw [if_neg (by omega), if_neg (by omega), if_neg (by omega), if_neg (by simp), if_neg (by omega)]
  refine ⟨h0, ?_, ?_⟩
  · unfold takeLen; rw [if_pos h0, en]
  · unfold takeRec; rw [if_pos h0, en, e9, List.take_left, ek]

theorem put_inj {r s : RecD} (hr : r.right) (hs : s.right) (h : r.put = s.put) : r = s := by
  have h1 := (take_put r hr []).2.2
  have h2 := (take_put s hs []).2.2
  rw [h] at h1
  exact h1.symm.trans h2

/-- What is taken was put. -/
theorem put_take (b : List UInt8) (h : takeErr b = 0) : (takeRec b).right ∧ (takeRec b).put = b.take (takeLen b) ∧ takeLen b ≤ b.length ∧ 9 ≤ takeLen b ∧ takeLen b = 9 + (takeRec b).d.length := by
  have h0 := h
  unfold takeErr at h
  split at h
  · cases h
  rename_i g1
  split at h
  · cases h
  rename_i g2
  split at h
  · cases h
  rename_i g3
  split at h
  · cases h
  rename_i g4
  split at h
  · cases h
  rename_i g5
  have g4' : sumB ((b.drop 4).take (5 + le ((b.drop 5).take 4))) = le (b.take 4) := by
    by_cases e : sumB ((b.drop 4).take (5 + le ((b.drop 5).take 4))) = le (b.take 4)
    · exact e
    · exact absurd e g4
  have el : takeLen b = 9 + le ((b.drop 5).take 4) := by unfold takeLen; rw [if_pos h0]
  have er : takeRec b = ⟨b.getD 4 0, (b.drop 9).take (le ((b.drop 5).take 4))⟩ := by unfold takeRec; rw [if_pos h0]
  obtain ⟨n, hn⟩ : ∃ n, n = le ((b.drop 5).take 4) := ⟨_, rfl⟩
  rw [← hn] at g2 g3 g4' el er
  have hdl : (takeRec b).d.length = n := by rw [er]; show ((b.drop 9).take n).length = n; rw [List.length_take, List.length_drop]; omega
  have ef : four n = (b.drop 5).take 4 := by rw [hn]; exact four_le _ (by rw [List.length_take, List.length_drop]; omega)
  have hrest : (takeRec b).rest = (b.drop 4).take (5 + n) := by
    unfold RecD.rest
    rw [hdl, ef, er]
    show b.getD 4 0 :: ((b.drop 5).take 4 ++ (b.drop 9).take n) = _
    have e1 : b.drop 4 = b.getD 4 0 :: b.drop 5 := by
      rw [List.drop_eq_getElem_cons (show 4 < b.length by omega), List.getD_eq_getElem?_getD, List.getElem?_eq_getElem (show 4 < b.length by omega)]; rfl
    have e2 : (b.drop 5).take (4 + n) = (b.drop 5).take 4 ++ (b.drop 9).take n := by
      rw [List.take_add, List.drop_drop]
    rw [e1, show 5 + n = (4 + n) + 1 by omega, List.take_succ_cons, e2]
  refine ⟨⟨by rw [er]; exact ⟨by show 1 ≤ (b.getD 4 0).toNat; omega, by show (b.getD 4 0).toNat ≤ 2; omega⟩, by rw [hdl]; omega⟩, ?_, by omega, by omega, by rw [hdl, el]⟩
  unfold RecD.put
  rw [hrest, g4', four_le _ (by rw [List.length_take]; omega), el, show 9 + n = 4 + (5 + n) by omega, List.take_add (i := 4) (j := 5 + n)]
end Go.Proofs.Ytbbglgfgelnncaa
