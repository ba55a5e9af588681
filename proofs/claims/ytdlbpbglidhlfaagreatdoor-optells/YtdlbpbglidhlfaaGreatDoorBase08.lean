/- ValShow, ValOk, ValBackM, ValImplK, WireOk, WireImpl, OpTake: our own definitions and contracts; no statement of the seat is proved here. -/
import Derived.Test.YtdlbpbglidhlfaaGreatDoorBase00
import Derived.Test.YtdlbpbglidhlfaaGreatDoorBase06
import Derived.Test.YtdlbpbglidhlfaaGreatDoorBase07
import Derived.Defers
import Derived.Recover
import Derived.Deep.RegionHeld3
import Derived.Test.YtdlbpbglidhlfaaGreatDoorBase01
import Derived.Test.YtdlbpbglidhlfaaGreatDoorBase04
import Derived.Test.YtdlbpbglidhlfaaGreatDoorBase02
import Derived.Test.YtdlbpbglidhlfaaGreatDoorBase05
namespace Go.Proofs.YtdlbpbglidhlfaaGreatDoor

/-- A digit of a number below 16. -/
def dgt (x : Nat) : UInt8 := UInt8.ofNat (if x < 10 then 48 + x else 55 + x)
/-- A number's digits. -/
def decs (u : Nat) : List UInt8 := if u < 10 then [dgt u] else decs (u / 10) ++ [dgt (u % 10)]
termination_by u
decreasing_by omega
theorem decs_low {u : Nat} (h : u < 10) : decs u = [dgt u] := by rw [decs, if_pos h]
theorem decs_high {u : Nat} (h : 10 ≤ u) : decs u = decs (u / 10) ++ [dgt (u % 10)] := by rw [decs, if_neg (by omega)]
/-- A byte of a text. -/
def escB (c : UInt8) : List UInt8 := if c.toNat < 33 ∨ 126 < c.toNat ∨ c.toNat = 34 ∨ c.toNat = 37 then [37, dgt (c.toNat / 16), dgt (c.toNat % 16)] else [c]
/-- An integer's digits. -/
def decI (n : Int) : List UInt8 := if n < 0 then 45 :: decs (-n).toNat else decs n.toNat

mutual
def VD.shown : VD → List UInt8
  | .mk 0 n _ _ => decI n
  | .mk 1 _ s _ => 34 :: (s.flatMap escB ++ [34])
  | .mk _ _ _ l => 91 :: (VD.shownL true l ++ [93])
/-- A list's values: a comma ahead of each but the first one. -/
def VD.shownL : Bool → List VD → List UInt8
  | _, [] => []
  | f, x :: r => (if f then [] else [44]) ++ (x.shown ++ VD.shownL false r)
end
theorem VD.shownL_snoc (l : List VD) (x : VD) : ∀ f, VD.shownL f (l ++ [x]) = VD.shownL f l ++ ((if f && l.isEmpty then [] else [44]) ++ x.shown) := by
  induction l with
  | nil => intro f; simp [VD.shownL]
  | cons y l ih =>
    intro f
    simp only [List.cons_append, VD.shownL]
    rw [ih false]
    simp [List.append_assoc]

theorem dgt_toNat {x : Nat} (h : x < 16) : (dgt x).toNat = if x < 10 then 48 + x else 55 + x := by unfold dgt; split <;> rw [u8_toNat (by omega)]
theorem dgt_inj {x y : Nat} (hx : x < 16) (hy : y < 16) (h : dgt x = dgt y) : x = y := by
  have := congrArg UInt8.toNat h
  rw [dgt_toNat hx, dgt_toNat hy] at this
  split at this <;> split at this <;> omega
/-- Digits are from 48 to 57. -/
def IsDig (c : UInt8) : Prop := 48 ≤ c.toNat ∧ c.toNat ≤ 57
theorem dgt_dig {x : Nat} (h : x < 10) : IsDig (dgt x) := by unfold IsDig; rw [dgt_toNat (by omega), if_pos h]; omega
theorem decs_dig (u : Nat) : ∀ c ∈ decs u, IsDig c := by
  induction u using Nat.strongRecOn with
  | ind u ih =>
    by_cases h : u < 10
    · rw [decs_low h]; intro c hc; rw [List.mem_singleton.1 hc]; exact dgt_dig h
    · rw [decs_high (by omega)]
      intro c hc
      rcases List.mem_append.1 hc with h1 | h1
      · exact ih _ (by omega) c h1
      · rw [List.mem_singleton.1 h1]; exact dgt_dig (by omega)
theorem decs_ne (u : Nat) : decs u ≠ [] := by
  by_cases h : u < 10
  · rw [decs_low h]; simp
  · rw [decs_high (by omega)]; simp
/-- What digits are worth. -/
def decV (l : List UInt8) : Nat := l.foldl (fun s c => 10 * s + (c.toNat - 48)) 0
theorem decV_decs (u : Nat) : decV (decs u) = u := by
  induction u using Nat.strongRecOn with
  | ind u ih =>
    by_cases h : u < 10
    · rw [decs_low h]; simp only [decV, List.foldl_cons, List.foldl_nil]; rw [dgt_toNat (by omega), if_pos h]; omega
    · rw [decs_high (by omega)]
      have h1 := ih (u / 10) (by omega)
      unfold decV at *
      rw [List.foldl_append, h1]
      simp only [List.foldl_cons, List.foldl_nil]
      rw [dgt_toNat (by omega), if_pos (by omega)]
      omega
theorem decs_inj {u v : Nat} (h : decs u = decs v) : u = v := by rw [← decV_decs u, h, decV_decs]

/-- What may stand behind what is shown. -/
def Ends (r : List UInt8) : Prop := r = [] ∨ ∃ c t, r = c :: t ∧ (c = 44 ∨ c = 93)
theorem Ends.noDig {r : List UInt8} (h : Ends r) : ∀ c t, r = c :: t → ¬ IsDig c := by
  rintro c t rfl
  rcases h with h | ⟨c', t', h, hc⟩
  · cases h
  · cases h
    rcases hc with rfl | rfl <;> unfold IsDig <;> decide
theorem digs_part : ∀ {p q r s : List UInt8}, (∀ c ∈ p, IsDig c) → (∀ c ∈ q, IsDig c) → (∀ c t, r = c :: t → ¬ IsDig c) → (∀ c t, s = c :: t → ¬ IsDig c) → p ++ r = q ++ s → p = q ∧ r = s
  | [], [], r, s, _, _, _, _, h => ⟨rfl, by simpa using h⟩
  | [], c :: q, r, s, _, hq, hr, _, h => absurd (hq c (by simp)) (hr c (q ++ s) (by simpa using h))
  | c :: p, [], r, s, hp, _, _, hs, h => absurd (hp c (by simp)) (hs c (p ++ r) (by simpa using h.symm))
  | c :: p, d :: q, r, s, hp, hq, hr, hs, h => by
    simp only [List.cons_append, List.cons.injEq] at h
    obtain ⟨h1, h2⟩ := digs_part (fun x hx => hp x (by simp [hx])) (fun x hx => hq x (by simp [hx])) hr hs h.2
    exact ⟨by rw [h.1, h1], h2⟩
theorem decI_head (n : Int) : ∃ c t, decI n = c :: t ∧ (c = 45 ∨ IsDig c) := by
  unfold decI
  split
  · exact ⟨45, _, rfl, .inl rfl⟩
  · have h := decs_ne n.toNat
    have hd := decs_dig n.toNat
    generalize decs n.toNat = l at *
    match l, h with
    | c :: t, _ => exact ⟨c, t, rfl, .inr (hd c (by simp))⟩
theorem decI_part {m n : Int} {r s : List UInt8} (hr : Ends r) (hs : Ends s) (h : decI m ++ r = decI n ++ s) : m = n ∧ r = s := by
  have n45 : ¬ IsDig 45 := by unfold IsDig; decide
  have hhd : ∀ u : Nat, ∃ c t, decs u = c :: t ∧ IsDig c := fun u => by
    have h := decs_ne u
    have hd := decs_dig u
    generalize decs u = l at *
    match l, h with
    | c :: t, _ => exact ⟨c, t, rfl, hd c (by simp)⟩
  unfold decI at h
  split at h <;> split at h
  · simp only [List.cons_append, List.cons.injEq, true_and] at h
    obtain ⟨h1, h2⟩ := digs_part (decs_dig _) (decs_dig _) hr.noDig hs.noDig h
    have := decs_inj h1
    exact ⟨by omega, h2⟩
  · obtain ⟨c, t, e, hc⟩ := hhd n.toNat
    rw [e] at h
    simp only [List.cons_append, List.cons.injEq] at h
    rw [← h.1] at hc
    exact absurd hc n45
  · obtain ⟨c, t, e, hc⟩ := hhd m.toNat
    rw [e] at h
    simp only [List.cons_append, List.cons.injEq] at h
    rw [h.1] at hc
    exact absurd hc n45
  · obtain ⟨h1, h2⟩ := digs_part (decs_dig _) (decs_dig _) hr.noDig hs.noDig h
    have := decs_inj h1
    exact ⟨by omega, h2⟩

theorem escB_head (c : UInt8) : ∃ d t, escB c = d :: t ∧ d.toNat ≠ 34 := by
  unfold escB
  split
  · exact ⟨37, _, rfl, by decide⟩
  · rename_i h
    exact ⟨c, [], rfl, fun e => h (.inr (.inr (.inl e)))⟩
theorem escB_part {c d : UInt8} {r s : List UInt8} (h : escB c ++ r = escB d ++ s) : c = d ∧ r = s := by
  have hc := c.toNat_lt
  have hd := d.toNat_lt
  unfold escB at h
  split at h <;> split at h
  · simp only [List.cons_append, List.nil_append, List.cons.injEq, true_and] at h
    have h1 := dgt_inj (by omega) (by omega) h.1
    have h2 := dgt_inj (by omega) (by omega) h.2.1
    exact ⟨UInt8.toNat_inj.1 (by omega), h.2.2⟩
  · rename_i h1 h2
    simp only [List.cons_append, List.nil_append, List.cons.injEq] at h
    have := congrArg UInt8.toNat h.1
    have e : (37 : UInt8).toNat = 37 := rfl
    omega
  · rename_i h1 h2
    simp only [List.cons_append, List.nil_append, List.cons.injEq] at h
    have := congrArg UInt8.toNat h.1
    have e : (37 : UInt8).toNat = 37 := rfl
    omega
  · simpa using h
theorem text_part : ∀ {s t : List UInt8} {r q : List UInt8}, s.flatMap escB ++ 34 :: r = t.flatMap escB ++ 34 :: q → s = t ∧ r = q
  | [], [], r, q, h => ⟨rfl, by simpa using h⟩
  | [], d :: t, r, q, h => by
    obtain ⟨x, y, e, hx⟩ := escB_head d
    rw [List.flatMap_cons, e] at h
    simp only [List.flatMap_nil, List.nil_append, List.cons_append, List.cons.injEq] at h
    exact absurd (by rw [← h.1]; rfl) hx
  | c :: s, [], r, q, h => by
    obtain ⟨x, y, e, hx⟩ := escB_head c
    rw [List.flatMap_cons, e] at h
    simp only [List.flatMap_nil, List.nil_append, List.cons_append, List.cons.injEq] at h
    exact absurd (by rw [h.1]; rfl) hx
  | c :: s, d :: t, r, q, h => by
    simp only [List.flatMap_cons, List.append_assoc] at h
    obtain ⟨rfl, h2⟩ := escB_part h
    obtain ⟨rfl, h3⟩ := text_part h2
    exact ⟨rfl, h3⟩

/-- Unlike values are shown unlike. -/
theorem VD.shown_part (v : VD) : ∀ (w : VD) (r q : List UInt8), v.kinds = true → w.kinds = true → Ends r → Ends q → v.shown ++ r = w.shown ++ q → v = w ∧ r = q := by
  induction v using VD.induct with
  | h v ih =>
    have hl : ∀ (l : List VD), (∀ x ∈ l, ∀ (w : VD) (r q : List UInt8), x.kinds = true → w.kinds = true → Ends r → Ends q → x.shown ++ r = w.shown ++ q → x = w ∧ r = q) → ∀ (p : List VD) (f : Bool) (r q : List UInt8), (∀ x ∈ l, x.kinds = true) → (∀ x ∈ p, x.kinds = true) → VD.shownL f l ++ 93 :: r = VD.shownL f p ++ 93 :: q → l = p ∧ r = q := by
      have hd : ∀ (x : VD), x.kinds = true → ∃ c t, x.shown = c :: t ∧ c ≠ 93 ∧ c ≠ 44 := fun x hx => by
        rcases VD.kinds_cases hx with ⟨n, rfl⟩ | ⟨s, rfl, _⟩ | ⟨l, rfl, _⟩
        · obtain ⟨c, t, e, hc⟩ := decI_head n
          refine ⟨c, t, by rw [VD.shown]; exact e, ?_, ?_⟩ <;> rintro rfl <;> rcases hc with hc | hc
          · cases hc
          · unfold IsDig at hc; exact absurd hc (by decide)
          · cases hc
          · unfold IsDig at hc; exact absurd hc (by decide)
        · exact ⟨34, _, by rw [VD.shown], by decide, by decide⟩
        · exact ⟨91, VD.shownL true l ++ [93], rfl, by decide, by decide⟩
      have he : ∀ (l : List VD) (r : List UInt8), Ends (VD.shownL false l ++ 93 :: r) := fun l r => by
        cases l with
        | nil => exact .inr ⟨93, r, by simp [VD.shownL], .inr rfl⟩
        | cons x l => exact .inr ⟨44, _, by simp [VD.shownL]; rfl, .inl rfl⟩
      intro l
      induction l with
      | nil =>
        intro _ p f r q _ hp h
        cases p with
        | nil => exact ⟨rfl, by simpa [VD.shownL] using h⟩
        | cons y p =>
          obtain ⟨c, t, e, h1, h2⟩ := hd y (hp y (by simp))
          cases f <;> simp [VD.shownL, e] at h
          exact absurd h.1.symm h1
      | cons x l ih2 =>
        intro hx p f r q hk hp h
        cases p with
        | nil =>
          obtain ⟨c, t, e, h1, h2⟩ := hd x (hk x (by simp))
          cases f <;> simp [VD.shownL, e] at h
          exact absurd h.1 h1
        | cons y p =>
          have h' : x.shown ++ (VD.shownL false l ++ 93 :: r) = y.shown ++ (VD.shownL false p ++ 93 :: q) := by
            cases f <;> simpa [VD.shownL, List.append_assoc] using h
          obtain ⟨rfl, h2⟩ := hx x (by simp) y _ _ (hk x (by simp)) (hp y (by simp)) (he l r) (he p q) h'
          obtain ⟨rfl, h3⟩ := ih2 (fun z hz => hx z (by simp [hz])) p false r q (fun z hz => hk z (by simp [hz])) (fun z hz => hp z (by simp [hz])) h2
          exact ⟨rfl, h3⟩
    intro w r q hv hw hr hq h
    have hno : ∀ n : Int, ∃ c t, decI n = c :: t ∧ c ≠ 34 ∧ c ≠ 91 := fun n => by
      obtain ⟨c, t, e, hc⟩ := decI_head n
      refine ⟨c, t, e, ?_, ?_⟩ <;> rintro rfl <;> rcases hc with hc | hc
      · cases hc
      · unfold IsDig at hc; exact absurd hc (by decide)
      · cases hc
      · unfold IsDig at hc; exact absurd hc (by decide)
    have e2 : ∀ l : List VD, VD.shown (.mk 2 0 [] l) = 91 :: (VD.shownL true l ++ [93]) := fun _ => rfl
    rcases VD.kinds_cases hv with ⟨n, rfl⟩ | ⟨s, rfl, hs⟩ | ⟨l, rfl, hll, hk⟩ <;> rcases VD.kinds_cases hw with ⟨n', rfl⟩ | ⟨s', rfl, hs'⟩ | ⟨l', rfl, hll', hk'⟩
    · simp only [VD.shown] at h
      obtain ⟨rfl, rfl⟩ := decI_part hr hq h
      exact ⟨rfl, rfl⟩
    · obtain ⟨c, t, e, h1, h2⟩ := hno n
      simp only [VD.shown, e, List.cons_append, List.cons.injEq] at h
      exact absurd h.1 h1
    · obtain ⟨c, t, e, h1, h2⟩ := hno n
      rw [e2] at h
      simp only [VD.shown, e, List.cons_append, List.cons.injEq] at h
      exact absurd h.1 h2
    · obtain ⟨c, t, e, h1, h2⟩ := hno n'
      simp only [VD.shown, e, List.cons_append, List.cons.injEq] at h
      exact absurd h.1.symm h1
    · simp only [VD.shown, List.cons_append, List.cons.injEq, true_and, List.append_assoc, List.nil_append] at h
      obtain ⟨rfl, rfl⟩ := text_part h
      exact ⟨rfl, rfl⟩
    · rw [e2] at h
      simp only [VD.shown, List.cons_append, List.cons.injEq] at h
      exact absurd h.1 (by decide)
    · obtain ⟨c, t, e, h1, h2⟩ := hno n'
      rw [e2] at h
      simp only [VD.shown, e, List.cons_append, List.cons.injEq] at h
      exact absurd h.1.symm h2
    · rw [e2] at h
      simp only [VD.shown, List.cons_append, List.cons.injEq] at h
      exact absurd h.1 (by decide)
    · rw [e2, e2] at h
      simp only [List.cons_append, List.cons.injEq, true_and, List.append_assoc, List.nil_append] at h
      obtain ⟨rfl, rfl⟩ := hl l ih l' true r q hk hk' h
      exact ⟨rfl, rfl⟩
end Go.Proofs.YtdlbpbglidhlfaaGreatDoor

namespace Go.Proofs.YtdlbpbglidhlfaaGreatDoor
open Go.RowKit

/-- A value that the statements ask of: no deeper than 20, of at most 600 parts. -/
def VD.Light (v : VD) : Prop := v.deep ≤ 20 ∧ v.parts ≤ 600
theorem VReads.light {b : List UInt8} {d j : Nat} {v : VD} (h : VReads b d v j) (hd : d ≤ 20) : v.Light := ⟨Nat.le_trans h.deep hd, Nat.le_trans h.parts (by omega)⟩

/-- What Take tells, in memory. -/
def TookVM (w : World) (n : Nat) (bs : List UInt8) (e : Ending) (W : World) : Prop :=
  (∃ (v : VD) (j : Nat) (u : Value) (ra : Option Addr) (rc : Nat), VReads bs 6 v j ∧ v.At (fun k => w.heap.size ≤ k) W u ∧ Bytes W (.slice ra (n - j) rc) (bs.drop j) ∧ e = .returned (.tuple #[u, .slice ra (n - j) rc, .int .i64 0])) ∨
  (NoVal bs 6 ∧ e = .returned (.tuple #[zeroV, .slice none 0 0, .int .i64 30]))
/-- What Parse tells, in memory. -/
def ParsedV (w : World) (bs : List UInt8) (e : Ending) (W : World) : Prop :=
  (∃ (v : VD) (u : Value), VReads bs 6 v bs.length ∧ v.At (fun k => w.heap.size ≤ k) W u ∧ e = .returned (.tuple #[u, .int .i64 0])) ∨
  ((∀ v, ¬ VReads bs 6 v bs.length) ∧ e = .returned (.tuple #[zeroV, .int .i64 30]))


end Go.Proofs.YtdlbpbglidhlfaaGreatDoor

namespace Go.Proofs.YtdlbpbglidhlfaaGreatDoor

theorem right_parts {v : VD} (h : v.right = true) : v.kinds = true ∧ v.deep ≤ 6 ∧ v.parts ≤ 200 := by
  unfold VD.right at h
  simp only [Bool.and_eq_true, decide_eq_true_eq] at h
  exact ⟨h.1.1, h.1.2, h.2⟩
theorem vreads_right {v : VD} (r : List UInt8) (h : v.right = true) (hf : v.Fits) : VReads (v.bytes ++ r) 6 v v.bytes.length :=
  VReads.of (right_parts h).1 (right_parts h).2.1 (right_parts h).2.2 hf rfl
theorem VReads.right {b : List UInt8} {v : VD} {j : Nat} (h : VReads b 6 v j) : v.right = true := by
  unfold VD.right
  rw [h.kinds, decide_eq_true h.deep, decide_eq_true h.parts]
  rfl
theorem VReads.taken {b : List UInt8} {d : Nat} {v : VD} {j : Nat} (h : VReads b d v j) : b.take j = v.bytes := by
  rw [h.eq, h.len, List.take_left' rfl]
theorem noVal_less {v : VD} {i d : Nat} (hv : v.kinds = true) (h : i < v.bytes.length) : NoVal (v.bytes.take i) d := fun v' j hr => by
  have e := hr.eq
  have h2 : v'.bytes ++ ((v.bytes.take i).drop j ++ v.bytes.drop i) = v.bytes ++ [] := by
    rw [← List.append_assoc, ← e, List.take_append_drop, List.append_nil]
  obtain ⟨_, h3⟩ := VD.bytes_prefix v' v _ _ hr.kinds hv h2
  have h4 := congrArg List.length h3
  simp only [List.length_append, List.length_drop, List.length_nil] at h4
  omega
/-- Unlike right values have unlike bytes. -/
theorem bytes_part {v w : VD} (hv : v.right = true) (hw : w.right = true) : v.bytes = w.bytes ↔ v = w := by
  constructor
  · intro h
    exact (VD.bytes_prefix v w [] [] (right_parts hv).1 (right_parts hw).1 (by rw [h])).1
  · intro h
    rw [h]
end Go.Proofs.YtdlbpbglidhlfaaGreatDoor

namespace Go.Proofs.YtdlbpbglidhlfaaGreatDoor
open Go.RowKit

theorem catch_panicking (p : Addr) (x : Int) (u : TypeId) (pv : Value) (older : List PanicEntry) (w : World) (hc : w.cell? p = some (.int .i64 x)) (hz : w.frozen? p = false) :
    CallsD Tryz.prog 82 #[.pointer (some p)] (.panicking ({ v := .iface u pv, recovered := false } :: older)) w fun e u' w' =>
      e = .returned (.tuple #[]) ∧ u' = .panicking ({ v := .iface u pv, recovered := true } :: older) ∧ w' = w.setCell p (.int .i64 30) := by
  refine callsD_of_wpS Tryz.func82 rfl fun c₀ cs hu => ?_
  apply wpS_seq
  apply wpS_region
  simp [wpOpsS, go_sem, recoverD, hu, Tryz.ntmps82, Exit.thenS]
  refine wpS_cond (t := true) (by simp [Act.eval, Array.replicate]) ?_
  simp only [if_true]
  apply wpS_region
  simp [wpOpsS, go_sem, hc, hz, bodyPostS, results, Tryz.results82]

theorem catch_idle (p : Addr) (w : World) :
    CallsD Tryz.prog 82 #[.pointer (some p)] .returning w fun e u' w' => e = .returned (.tuple #[]) ∧ u' = .returning ∧ w' = w := by
  refine callsD_of_wpS Tryz.func82 rfl fun c₀ cs hu => ?_
  apply wpS_seq
  apply wpS_region
  simp [wpOpsS, go_sem, recoverD, hu, Tryz.ntmps82, Exit.thenS]
  refine wpS_cond (t := false) (by simp [Act.eval, Array.replicate]) ?_
  simp only [Bool.false_eq_true, if_false]
  refine wpS_of_wp (wp_skip ?_)
  cases c₀
  simp_all [bodyPostS, results, Tryz.results82]

theorem results_ctc {P : Program} {fn : Func} {p q u : Tmp} {ty ty2 : TypeId} (h : fn.results = #[.cell p ty, .tmp u, .cell q ty2]) (tmps : Array Value) (w : World) (g g2 : Nat) (t : TypeId) (cs : Array Value) (fr : Nat × Nat) (d : TypeDesc) (x : Value)
    (hp : tmps.getD p undef = .pointer (some ⟨g, 0, none⟩)) (hg : w.heap[g]? = some (.cells cs t fr))
    (hu : P.underlying ty = some d) (hd : (match d with | .struct _ | .array _ _ => true | _ => false) = true) (hi : (P.info? ty).map (·.size) = some cs.size)
    (hq : tmps.getD q undef = .pointer (some ⟨g2, 0, none⟩)) (hx : (loadVar ty2 ⟨g2, 0, none⟩).run P w = .ok x w) :
    (results fn tmps).run P w = .ok (.tuple #[.agg cs, tmps.getD u undef, x]) w := by
  have hp' : tmps[p]?.getD undef = .pointer (some ⟨g, 0, none⟩) := by simpa using hp
  have hq' : tmps[q]?.getD undef = .pointer (some ⟨g2, 0, none⟩) := by simpa using hq
  simp only [results, h]
  simp [Result.andThen, hp', hq', asAddr, run_loadVar_row w g t ty cs fr d hg hu hd hi, hx]
theorem load_errno {w : World} {g : Nat} {x : Int} (h : w.cell? ⟨g, 0, none⟩ = some (.int .i64 x)) : (loadVar 31 ⟨g, 0, none⟩).run Tryz.prog w = .ok (.int .i64 x) w := by
  simp [go_sem, h]

/-- Behind the reader's value: what is told lies in three blocks. -/
structure TkS (b w : World) (v : VD) (xK xl xc : Nat) (xN : Int) (xz : ByteArray) (xa a' : Option Addr) (n' P : Nat) (bs : List UInt8) (W : World) : Prop where
  h2 : W.heap[w.heap.size]? = some (.cells #[.int .u8 ((xK : Nat) : Int), .int .i64 xN, .string xz, .slice xa xl xc] 24 (0, 0))
  h4 : W.heap[w.heap.size + 1]? = some (.cells #[.int .i64 0] 31 (0, 0))
  val : v.At (fun k => w.heap.size + 3 ≤ k) W (.agg #[.int .u8 ((xK : Nat) : Int), .int .i64 xN, .string xz, .slice xa xl xc])
  rdr : Rdr b (w.heap.size + 2) a' n' n' P bs W
  le : b.heap.size ≤ w.heap.size
  bel : Below w.heap.size w W
section
variable {b w W : World} {v : VD} {xK xl xc n' P : Nat} {xN : Int} {xz : ByteArray} {xa a' : Option Addr} {bs : List UInt8}
theorem TkS.setE (h : TkS b w v xK xl xc xN xz xa a' n' P bs W) : TkS b w v xK xl xc xN xz xa a' n' P bs (W.setCell ⟨w.heap.size + 1, 0, none⟩ (.int .i64 0)) :=
  ⟨(Below.heap_setCell _ _ _ _ (by show w.heap.size ≠ w.heap.size + 1; omega)).trans h.h2, heap_setCell_same _ _ _ _ _ _ h.h4, h.val.kept (fun k hk _ => Below.heap_setCell _ _ _ _ (by show k ≠ w.heap.size + 1; omega)) (fun _ hk _ => hk), h.rdr.other (by have := h.le; omega) (by omega) 0 _, h.le, h.bel.setCell (p := ⟨w.heap.size + 1, 0, none⟩) (by show w.heap.size ≤ w.heap.size + 1; omega) _⟩
theorem set4_other {W : World} {g k : Nat} (x y z u : Value) (hk : k ≠ g) : ((((W.setCell ⟨g, 0, none⟩ x).setCell ⟨g, 1, none⟩ y).setCell ⟨g, 2, none⟩ z).setCell ⟨g, 3, none⟩ u).heap[k]? = W.heap[k]? := by
  rw [Below.heap_setCell _ _ _ _ hk, Below.heap_setCell _ _ _ _ hk, Below.heap_setCell _ _ _ _ hk, Below.heap_setCell _ _ _ _ hk]
theorem TkS.setS {v0 v1 v2 v3 : Value} (h2 : W.heap[w.heap.size]? = some (.cells #[v0, v1, v2, v3] 24 (0, 0))) (h4 : W.heap[w.heap.size + 1]? = some (.cells #[.int .i64 0] 31 (0, 0))) (hv : v.At (fun k => w.heap.size + 3 ≤ k) W (.agg #[.int .u8 ((xK : Nat) : Int), .int .i64 xN, .string xz, .slice xa xl xc])) (hr : Rdr b (w.heap.size + 2) a' n' n' P bs W) (hle : b.heap.size ≤ w.heap.size) (hbe : Below w.heap.size w W) :
    TkS b w v xK xl xc xN xz xa a' n' P bs ((((W.setCell ⟨w.heap.size, 0, none⟩ (.int .u8 ((xK : Nat) : Int))).setCell ⟨w.heap.size, 1, none⟩ (.int .i64 xN)).setCell ⟨w.heap.size, 2, none⟩ (.string xz)).setCell ⟨w.heap.size, 3, none⟩ (.slice xa xl xc)) :=
  ⟨set4_heap h2 _ _ _ _, (set4_other _ _ _ _ (by omega)).trans h4, hv.kept (fun k hk _ => set4_other _ _ _ _ (by omega)) (fun _ hk _ => hk), (((hr.other hle (by omega) 0 _).other hle (by omega) 1 _).other hle (by omega) 2 _).other hle (by omega) 3 _, hle, (((hbe.setCell (p := ⟨w.heap.size, 0, none⟩) (Nat.le_refl _) _).setCell (p := ⟨w.heap.size, 1, none⟩) (Nat.le_refl _) _).setCell (p := ⟨w.heap.size, 2, none⟩) (Nat.le_refl _) _).setCell (p := ⟨w.heap.size, 3, none⟩) (Nat.le_refl _) _⟩
theorem TkS.drew (h : TkS b w v xK xl xc xN xz xa a' n' P bs W) : TkS b w v xK xl xc xN xz xa a' n' P bs W.drew :=
  ⟨h.h2, h.h4, h.val.later ((Below.refl _ _).drew), h.rdr.later ((Below.refl _ _).drew), h.le, h.bel.drew⟩
theorem TkS.again (h : TkS b w v xK xl xc xN xz xa a' n' P bs W) : TkS b w v xK xl xc xN xz xa a' n' P bs ((((W.setCell ⟨w.heap.size, 0, none⟩ (.int .u8 ((xK : Nat) : Int))).setCell ⟨w.heap.size, 1, none⟩ (.int .i64 xN)).setCell ⟨w.heap.size, 2, none⟩ (.string xz)).setCell ⟨w.heap.size, 3, none⟩ (.slice xa xl xc)) := TkS.setS h.h2 h.h4 h.val h.rdr h.le h.bel
end

/-- What Take tells, in memory: what is behind reads so in any world ahead in which what came in does. -/
def TookVB (b w : World) (n : Nat) (bs : List UInt8) (e : Ending) (W : World) : Prop :=
  (∃ (v : VD) (j : Nat) (u : Value) (ra : Option Addr) (rc : Nat), VReads bs 6 v j ∧ v.At (fun k => w.heap.size ≤ k) W u ∧ Bytes b (.slice ra (n - j) rc) (bs.drop j) ∧ e = .returned (.tuple #[u, .slice ra (n - j) rc, .int .i64 0])) ∨
  (NoVal bs 6 ∧ e = .returned (.tuple #[zeroV, .slice none 0 0, .int .i64 30]))
set_option maxRecDepth 100000 in
set_option maxHeartbeats 1000000 in
theorem vTakeB_any (a : Option Addr) (n c : Nat) (bs : List UInt8) (b w : World) (hbw : Below b.heap.size b w) (h : Bytes b (.slice a n c) bs) (hn : n ≤ 1048576) : Calls Tryz.prog 58 #[.slice a n c] w fun e w' => TookVB b w n bs e w' ∧ Below w.heap.size w w' := by
  have hmf : ∀ (fn : Fn) (first cap : Array Value) (w : World), (Instr.makeFunc fn first cap).run Tryz.prog w = .ok (.func fn first cap) w := fun _ _ _ _ => rfl
  obtain ⟨W1, hW1⟩ : ∃ W1, W1 = (w.alloc (.cells #[.int .u8 0, .int .i64 0, .string ⟨#[]⟩, .slice none 0 0] 24)).alloc (.cells #[.int .i64 0] 31) := ⟨_, rfl⟩
  obtain ⟨W2, hW2⟩ : ∃ W2, W2 = W1.alloc (.cells #[.slice a n c, .int .i64 0] 109) := ⟨_, rfl⟩
  have hb0 : Below w.heap.size w (w.alloc (.cells #[.int .u8 0, .int .i64 0, .string ⟨#[]⟩, .slice none 0 0] 24)) := (Below.refl _ w).alloc (Nat.le_refl _) _
  have hb1 : Below w.heap.size w W1 := by rw [hW1]; exact hb0.alloc hb0.size _
  have hb12 : Below W1.heap.size W1 W2 := by rw [hW2]; exact (Below.refl _ W1).alloc (Nat.le_refl _) _
  have hb2 : Below w.heap.size w W2 := hb1.trans (hb12.mono hb1.size)
  have hs1 : W1.heap.size = w.heap.size + 2 := by rw [hW1]; simp
  have hs2 : W2.heap.size = w.heap.size + 3 := by rw [hW2]; simp [hs1]
  have hr2 : W1.heap[w.heap.size]? = some (.cells #[.int .u8 0, .int .i64 0, .string ⟨#[]⟩, .slice none 0 0] 24 (0, 0)) := by
    rw [hW1, ((Below.refl _ _).alloc (Nat.le_refl _) _ : Below _ (w.alloc (.cells #[.int .u8 0, .int .i64 0, .string ⟨#[]⟩, .slice none 0 0] 24)) _).block _ (by simp)]
    exact heap_alloc_new w _
  have hr4 : W1.heap[w.heap.size + 1]? = some (.cells #[.int .i64 0] 31 (0, 0)) := by
    have h := heap_alloc_new (w.alloc (.cells #[.int .u8 0, .int .i64 0, .string ⟨#[]⟩, .slice none 0 0] 24)) (.cells #[.int .i64 0] 31)
    rw [hW1]
    simpa using h
  have hr5 : W2.heap[w.heap.size + 2]? = some (.cells #[.slice a n c, .int .i64 0] 109 (0, 0)) := by
    have h := heap_alloc_new W1 (.cells #[.slice a n c, .int .i64 0] 109)
    rw [← hW2, hs1] at h
    exact h
  have kr2 := (hb12.block _ (lt_rowV hr2)).trans hr2
  have kr4 := (hb12.block _ (lt_rowV hr4)).trans hr4
  have hle := hbw.size
  have hR2 : Rdr b (w.heap.size + 2) a n c 0 bs W2 := ⟨hbw.trans (hb2.mono hle), by omega, hr5, h, hn⟩
  have HLE := hide hle
  have HBW := hide hbw
  have HC := hide (rValue_any 6 1 rfl (by omega) b _ n c 0 a bs W2 hR2 (by omega))
  have HS1 := hide hs1
  have HS2 := hide hs2
  have HK2 := hide kr2
  have HK4 := hide kr4
  have HB2 := hide hb2
  have HW1 := hide hW1
  have HW2 := hide hW2
  clear h hn hb0 hb1 hb12 hb2 hs1 hs2 hr2 hr4 hr5 kr2 kr4 hR2 hW1 hW2 hle hbw
  go_enter_defers Tryz.func58, Tryz.ntmps58
  go_upto_region 2 with fail
  rw [← unhide HW1]
  clear HW1
  go_upto_region 3 with fail
  rw [← unhide HW2]
  rw [unhide HS1]
  clear HW2
  go_wp2_with fail
  refine (unhide HC).mono ?_
  rintro e W3 ⟨hu3, ⟨v, j, xK, xl, xc, n', xN, xz, xa, a', hvr, hvp, rfl, hAt, hn', hR3⟩ | ⟨hNo, rfl⟩⟩
  · have g2 := (hu3.block _ (lt_rowV (unhide HK2)) (by omega)).trans (unhide HK2)
    have g4 := (hu3.block _ (lt_rowV (unhide HK4)) (by omega)).trans (unhide HK4)
    have hT := TkS.setS (v := v) (xK := xK) (xN := xN) (xz := xz) (xa := xa) (xl := xl) (xc := xc) g2 g4 (hAt.wider fun k hk => by have := unhide HS2; omega) hR3 (unhide HLE) (hu3.below (unhide HB2) (by omega))
    obtain ⟨⟨c0, c1, c2, c3⟩, f0, f1, f2, f3⟩ := cells4 g2
    obtain ⟨W4, hW4⟩ : ∃ W4, W4 = ((((W3.setCell ⟨w.heap.size, 0, none⟩ (.int .u8 ((xK : Nat) : Int))).setCell ⟨w.heap.size, 1, none⟩ (.int .i64 xN)).setCell ⟨w.heap.size, 2, none⟩ (.string xz)).setCell ⟨w.heap.size, 3, none⟩ (.slice xa xl xc)) := ⟨_, rfl⟩
    rw [← hW4] at hT
    obtain ⟨⟨d0, d1, d2, d3⟩, e0, e1, e2, e3⟩ := cells4 hT.h2
    have e4 : W4.cell? ⟨w.heap.size + 1, 0, none⟩ = some (.int .i64 0) := cell_of_row _ _ 0 _ _ _ hT.h4
    have e4f : W4.frozen? ⟨w.heap.size + 1, 0, none⟩ = false := frozen_of_row _ _ _ _ _ hT.h4
    obtain ⟨r0, r1, -, -⟩ := hT.rdr.cells
    have HT := hide hT
    have HW4 := hide hW4
    have HVR := hide hvr
    have HNE := hide hn'
    clear hu3 hvr hvp hAt hn' hR3 g2 g4 hT hW4
    go_upto_region 4 with fail
    rw [← unhide HW4]
    clear HW4 c0 c1 c2 c3 f0 f1 f2 f3
    refine wp_region_noPanic ?_
    go_region
    all_goals (
      refine NoPanic.normal ?_
      have HT5 := hide (unhide HT).again.setE.drew
      go_wp2
      refine leaves_cons (f := 82) (args := #[.pointer (some ⟨w.heap.size + 1, 0, none⟩)]) (by simp) (by simp [go_sem]) ?_
      refine (catch_idle _ _).mono ?_
      rintro e u' w'' ⟨rfl, rfl, rfl⟩
      simp only [settle]
      refine ⟨_, results_ctc rfl _ _ _ _ _ _ _ _ (.int .i64 0) rfl (unhide HT5).h2 Tryz.underlying24 rfl (by kernel_rfl) rfl (load_errno (cell_of_row _ _ 0 _ _ _ (unhide HT5).h4)), .inl ⟨v, j, _, a', n', unhide HVR, (unhide HT5).val.wider (fun k hk => by omega), ?_, ?_⟩, (unhide HT5).bel⟩
      · rw [← unhide HNE]; exact (unhide HT5).rdr.bytes
      · rw [← unhide HNE]; rfl)
  · have g2 := (hu3.block _ (lt_rowV (unhide HK2)) (by omega)).trans (unhide HK2)
    have g4 := (hu3.block _ (lt_rowV (unhide HK4)) (by omega)).trans (unhide HK4)
    have HB3 := hide (hu3.below (unhide HB2) (by omega))
    have HNV : Hid (NoVal bs 6) := NoV.noVal hNo
    have HG2 := hide g2
    have HG4 := hide g4
    clear hu3 hNo g2 g4
    go_wp2_with fail
    refine leaves_cons (f := 82) (args := #[.pointer (some ⟨w.heap.size + 1, 0, none⟩)]) (by simp) (by simp [go_sem]) ?_
    refine (catch_panicking _ 0 _ _ [] _ (cell_of_row _ _ 0 _ _ _ (unhide HG4)) (frozen_of_row _ _ _ _ _ (unhide HG4))).mono ?_
    rintro e u' w'' ⟨rfl, rfl, rfl⟩
    have h2' : (W3.setCell ⟨w.heap.size + 1, 0, none⟩ (.int .i64 30)).heap[w.heap.size]? = _ := (Below.heap_setCell _ _ _ _ (by show w.heap.size ≠ w.heap.size + 1; omega)).trans (unhide HG2)
    have h4' := heap_setCell_same _ _ 0 _ _ (.int .i64 30) (unhide HG4)
    simp only [settle]
    exact ⟨_, results_ctc rfl _ _ _ _ _ _ _ _ (.int .i64 30) rfl h2' Tryz.underlying24 rfl (by kernel_rfl) rfl (load_errno (cell_of_row _ _ 0 _ _ _ h4')), .inr ⟨unhide HNV, rfl⟩, (unhide HB3).setCell (p := ⟨w.heap.size + 1, 0, none⟩) (by show w.heap.size ≤ w.heap.size + 1; omega) _⟩

theorem vTake_any (a : Option Addr) (n c : Nat) (bs : List UInt8) (w : World) (h : Bytes w (.slice a n c) bs) (hn : n ≤ 1048576) : Calls Tryz.prog 58 #[.slice a n c] w fun e w' => TookVM w n bs e w' ∧ Below w.heap.size w w' := by
  refine (vTakeB_any a n c bs w w (Below.refl _ _) h hn).mono ?_
  rintro e W ⟨⟨v, j, u, ra, rc, h1, h2, h3, h4⟩ | h1, hb⟩
  · exact ⟨.inl ⟨v, j, u, ra, rc, h1, h2, h3.kept fun k _ hk => hb.block k hk, h4⟩, hb⟩
  · exact ⟨.inr h1, hb⟩

theorem VD.At.form {B : Nat → Prop} {W : World} {v : VD} {u : Value} (h : v.At B W u) : ∃ (K m c : Nat) (N : Int) (z : ByteArray) (a : Option Addr), u = .agg #[.int .u8 ((K : Nat) : Int), .int .i64 N, .string z, .slice a m c] := by
  rw [VD.at_iff] at h
  obtain ⟨a, c, rfl, _⟩ := h
  exact ⟨_, _, _, _, _, _, rfl⟩


end Go.Proofs.YtdlbpbglidhlfaaGreatDoor

namespace Go.Proofs.YtdlbpbglidhlfaaGreatDoor
open Go.RowKit

/-- What TakeNum tells, in memory. -/
def TookNumM (n : Nat) (bs : List UInt8) (e : Ending) (W : World) : Prop :=
  (∃ (x : Int) (k : Nat) (ra : Option Addr) (rc : Nat), Reads bs x k ∧ Bytes W (.slice ra (n - k) rc) (bs.drop k) ∧ e = .returned (.tuple #[.int .i64 x, .slice ra (n - k) rc, .int .i64 0])) ∨
  (NoNum bs ∧ e = .returned (.tuple #[.int .i64 0, .slice none 0 0, .int .i64 30]))
/-- What TakeText tells, in memory. -/
def TookTextM (n : Nat) (bs : List UInt8) (most : Int) (e : Ending) (W : World) : Prop :=
  (∃ (s : List UInt8) (k : Nat) (ra : Option Addr) (rc : Nat), ReadsT bs most s k ∧ Bytes W (.slice ra (n - k - s.length) rc) (bs.drop (k + s.length)) ∧ e = .returned (.tuple #[.string ⟨s.toArray⟩, .slice ra (n - k - s.length) rc, .int .i64 0])) ∨
  (NoText bs most ∧ e = .returned (.tuple #[.string ⟨#[]⟩, .slice none 0 0, .int .i64 30]))

structure WireOk : Prop where
  size : ∀ n w, InR n → Calls Tryz.prog 68 #[.int .i64 n] w fun e w' => e = .returned (.int .i64 ((numB n).length : Nat)) ∧ Below w.heap.size w w'
  num : ∀ u bs n w, InR n → Bytes w u bs → bs.length ≤ 1048576 → Calls Tryz.prog 43 #[u, .int .i64 n] w fun e w' => ∃ v, e = .returned v ∧ Own w v (bs ++ numB n) w'
  text : ∀ u bs s w, Bytes w u bs → bs.length ≤ 1048576 → s.length ≤ 1048576 → Calls Tryz.prog 44 #[u, .string ⟨s.toArray⟩] w fun e w' => ∃ v, e = .returned v ∧ Own w v (bs ++ textB s) w'
  takeNum : ∀ a n c bs w, Bytes w (.slice a n c) bs → n ≤ 1048576 → Calls Tryz.prog 80 #[.slice a n c] w fun e w' => TookNumM n bs e w' ∧ Below w.heap.size w w'
  takeText : ∀ a n c bs most w, Bytes w (.slice a n c) bs → n ≤ 1048576 → InR most → Calls Tryz.prog 81 #[.slice a n c, .int .i64 most] w fun e w' => TookTextM n bs most e w' ∧ Below w.heap.size w w'

set_option maxHeartbeats 400000 in
theorem wSame_any (u1 u2 : Value) (b1 b2 : List UInt8) (w : World) (h1 : Bytes w u1 b1) (h2 : Bytes w u2 b2) : Calls Tryz.prog 14 #[u1, u2] w fun e w' => e = .returned (.bool (decide (b1 = b2))) ∧ w' = w := by
  have c1 := run_convert_bytes (P := Tryz.prog) w 28 9 5 Tryz.underlying28 Tryz.underlying5 Tryz.underlying9 u1 b1 h1
  have c2 := run_convert_bytes (P := Tryz.prog) w 28 9 5 Tryz.underlying28 Tryz.underlying5 Tryz.underlying9 u2 b2 h2
  have e0 : ((⟨b1.toArray⟩ : ByteArray).toList == (⟨b2.toArray⟩ : ByteArray).toList) = decide (b1 = b2) := by
    rw [ByteArray.toList_eq, ByteArray.toList_eq, Bool.eq_iff_iff]; simp
  have HE : Hid (((⟨b1.toArray⟩ : ByteArray).toList == (⟨b2.toArray⟩ : ByteArray).toList) = decide (b1 = b2)) := e0
  clear e0 h1 h2
  generalize (⟨b1.toArray⟩ : ByteArray) = s1 at *
  generalize (⟨b2.toArray⟩ : ByteArray) = s2 at *
  go_enter Tryz.func14, Tryz.ntmps14
  go_wp2
  go_ret
  exact ⟨ret_bool HE.out, rfl⟩
theorem wSame_true (u1 u2 : Value) (bs : List UInt8) (w : World) (h1 : Bytes w u1 bs) (h2 : Bytes w u2 bs) : Calls Tryz.prog 14 #[u1, u2] w fun e w' => e = .returned (.bool true) ∧ w' = w := by
  refine (wSame_any u1 u2 bs bs w h1 h2).mono ?_
  rintro e w' ⟨rfl, hw⟩
  exact ⟨by rw [decide_eq_true rfl], hw⟩
theorem wSame_false (u1 u2 : Value) (b1 b2 : List UInt8) (w : World) (h1 : Bytes w u1 b1) (h2 : Bytes w u2 b2) (hne : b1 ≠ b2) : Calls Tryz.prog 14 #[u1, u2] w fun e w' => e = .returned (.bool false) ∧ w' = w := by
  refine (wSame_any u1 u2 b1 b2 w h1 h2).mono ?_
  rintro e w' ⟨rfl, hw⟩
  exact ⟨by rw [decide_eq_false hne], hw⟩
end Go.Proofs.YtdlbpbglidhlfaaGreatDoor

namespace Go.Proofs.YtdlbpbglidhlfaaGreatDoor
open Go.RowKit

theorem wireOk : WireOk where
  size := fun n w hn => size_any n hn w
  num := fun u bs n w hn h hl => wNum_any u bs n hn w h hl
  text := fun u bs s w h hl hs => wText_any u bs s w h hl hs
  takeNum := fun a n c bs w h hl => by
    refine (takeNum_any a n c bs w h hl).mono ?_
    rintro e w' ⟨ht, hb⟩
    refine ⟨?_, hb⟩
    rcases ht with ⟨x, k, hr, rfl⟩ | ⟨hN, rfl⟩
    · refine .inl ⟨x, k, _, _, hr, (h.cut ?_).laterW hb, rfl⟩
      have := hr.le
      rw [(bytes_len h).1] at this
      exact this
    · exact .inr ⟨hN, rfl⟩
  takeText := fun a n c bs most w h hl hm => by
    refine (takeText_any a n c bs most w h hl hm).mono ?_
    rintro e w' ⟨ht, hb⟩
    refine ⟨?_, hb⟩
    rcases ht with ⟨s, k, hr, rfl⟩ | ⟨hN, rfl⟩
    · have h1 := hr.le
      rw [(bytes_len h).1] at h1
      have h2 := (h.cut (k := k) (by omega)).cut (k := s.length) (by omega)
      rw [List.drop_drop] at h2
      exact .inl ⟨s, k, _, _, hr, h2.laterW hb, rfl⟩
    · exact .inr ⟨hN, rfl⟩
end Go.Proofs.YtdlbpbglidhlfaaGreatDoor

namespace Go.Proofs.YtdlbpbglidhlfaaGreatDoor
open Go.RowKit

/-- A reader in the block g: what is left, in the world b, and whether it is broken. -/
structure RdO (b : World) (g : Nat) (brk : Bool) (bs : List UInt8) (W : World) : Prop where
  below : Below b.heap.size b W
  new : b.heap.size ≤ g
  is : ∃ (a : Option Addr) (n c : Nat), W.heap[g]? = some (.cells #[.slice a n c, .bool brk] 57 (0, 0)) ∧ Bytes b (.slice a n c) bs ∧ n ≤ 1048576
theorem RdO.lt {b : World} {g : Nat} {brk : Bool} {bs : List UInt8} {W : World} (h : RdO b g brk bs W) : g < W.heap.size := by
  obtain ⟨_, _, a, n, c, h3, _⟩ := h
  exact (Array.getElem?_eq_some_iff.1 h3).1
theorem RdO.kept {b : World} {g : Nat} {brk : Bool} {bs : List UInt8} {W W' : World} (h : RdO b g brk bs W) (hb : Below b.heap.size b W') (hg : W'.heap[g]? = W.heap[g]?) : RdO b g brk bs W' := by
  obtain ⟨h1, h2, a, n, c, h3, h4⟩ := h
  exact ⟨hb, h2, a, n, c, hg.trans h3, h4⟩
theorem RdO.later {b : World} {g : Nat} {brk : Bool} {bs : List UInt8} {W W' : World} (h : RdO b g brk bs W) (hb : Below W.heap.size W W') : RdO b g brk bs W' :=
  h.kept (h.below.trans (hb.mono h.below.size)) (hb.block _ h.lt)

/-- What one of these takes gives: it took x of bs, behind it bs'; or there is none. -/
def OneM {α : Type} (P : α → Prop) (enc : α → List UInt8) (bs : List UInt8) (er : Int) (x : α) (bs' : List UInt8) : Prop := (er = 0 ∧ P x ∧ bs = enc x ++ bs') ∨ (er = 30 ∧ ∀ y r, P y → bs ≠ enc y ++ r)
theorem OneM.took {α : Type} {P : α → Prop} {enc : α → List UInt8} {bs : List UInt8} {er : Int} {x : α} {bs' : List UInt8} (h : OneM P enc bs er x bs') (inj : ∀ x y r q, P x → P y → enc x ++ r = enc y ++ q → x = y ∧ r = q) (brk : Bool) : ∃ e : Bool, (er != 0) = e ∧ (er == 0) = !e ∧ Took P enc brk bs x (brk || e) bs' := by
  rcases h with ⟨rfl, hP, he⟩ | ⟨rfl, hN⟩
  · exact ⟨false, rfl, rfl, by rw [Bool.or_false]; exact Took.of hP he fun y r hy e => inj x y _ _ hP hy e⟩
  · exact ⟨true, rfl, rfl, by rw [Bool.or_true]; exact Took.no hN⟩

def PText (s : List UInt8) : Prop := s.length ≤ 400
def PVal (v : VD) : Prop := v.right = true ∧ v.Fits
def PFrag (l : List FI) : Prop := rightF l = true
def PNum (most : Int) (x : Int) : Prop := 0 ≤ x ∧ x ≤ most

set_option maxHeartbeats 1000000 in
theorem oText_any (a : Option Addr) (n c : Nat) (bs : List UInt8) (b w : World) (hbw : Below b.heap.size b w) (h : Bytes b (.slice a n c) bs) (hl : n ≤ 1048576) : Calls Tryz.prog 56 #[.slice a n c] w fun e W => ∃ (s bs' : List UInt8) (ra : Option Addr) (rn rc : Nat) (er : Int), e = .returned (.tuple #[.string ⟨s.toArray⟩, .slice ra rn rc, .int .i64 er]) ∧ Bytes b (.slice ra rn rc) bs' ∧ rn ≤ 1048576 ∧ Below w.heap.size w W ∧ s.length ≤ 400 ∧ OneM PText textB bs er s bs' := by
  have HT := hide (takeText_any a n c bs 400 w (h.kept fun k _ hk => hbw.block k hk) hl (by unfold InR; omega))
  have HH := hide h
  have hbl := (bytes_len h).1
  have HBL := hide hbl
  have HL := hide hl
  clear h hl hbl hbw
  go_enter Tryz.func56, Tryz.ntmps56
  go_wp2_with fail
  refine (unhide HT).mono ?_
  rintro e W ⟨ht, hb⟩
  have HB := hide hb
  clear hb
  rcases ht with ⟨s, k, hr, rfl⟩ | ⟨hN, rfl⟩
  · have HFIN : Hid (∃ (s' bs' : List UInt8) (ra' : Option Addr) (rn' rc' : Nat) (er' : Int), Ending.returned (.tuple #[.string ⟨s.toArray⟩, .slice (wcutA (wcutA a n k) (n - k) s.length) (n - k - s.length) (n - k - s.length), .int .i64 0]) = .returned (.tuple #[.string ⟨s'.toArray⟩, .slice ra' rn' rc', .int .i64 er']) ∧ Bytes b (.slice ra' rn' rc') bs' ∧ rn' ≤ 1048576 ∧ Below w.heap.size w W ∧ s'.length ≤ 400 ∧ OneM PText textB bs er' s' bs') := by
      have hm := hr.most
      have h1 := hr.le
      rw [unhide HBL] at h1
      have h2 := ((unhide HH).cut (k := k) (by omega)).cut (k := s.length) (by omega)
      rw [List.drop_drop] at h2
      refine ⟨s, _, _, _, _, 0, rfl, h2, by have := unhide HL; omega, unhide HB, by omega, .inl ⟨rfl, ?_, hr.whole⟩⟩
      show s.length ≤ 400
      omega
    clear hr
    generalize wcutA (wcutA a n k) (n - k) s.length = ra at *
    generalize (⟨s.toArray⟩ : ByteArray) = sz at *
    generalize n - k - s.length = rn at *
    go_wp2_with fail
    go_ret3
    exact unhide HFIN
  · have HFIN : Hid (∃ (s' bs' : List UInt8) (ra' : Option Addr) (rn' rc' : Nat) (er' : Int), Ending.returned (.tuple #[.string ⟨#[]⟩, .slice none 0 0, .int .i64 30]) = .returned (.tuple #[.string ⟨s'.toArray⟩, .slice ra' rn' rc', .int .i64 er']) ∧ Bytes b (.slice ra' rn' rc') bs' ∧ rn' ≤ 1048576 ∧ Below w.heap.size w W ∧ s'.length ≤ 400 ∧ OneM PText textB bs er' s' bs') := by
      refine ⟨[], [], none, 0, 0, 30, rfl, (Own.start b).fresh.1.1, Nat.zero_le _, unhide HB, Nat.zero_le _, .inr ⟨rfl, fun y r hy e => ?_⟩⟩
      have hy4 : y.length ≤ 400 := hy
      exact hN _ _ (ReadsT.of (r := r) (by unfold InR; omega) (by omega) e)
    clear hN
    go_wp2_with fail
    go_ret3
    exact unhide HFIN
theorem oNum1_any (a : Option Addr) (n c : Nat) (bs : List UInt8) (b w : World) (hbw : Below b.heap.size b w) (h : Bytes b (.slice a n c) bs) (hl : n ≤ 1048576) : Calls Tryz.prog 80 #[.slice a n c] w fun e W => ∃ (x : Int) (bs' : List UInt8) (ra : Option Addr) (rn rc : Nat) (er : Int), e = .returned (.tuple #[.int .i64 x, .slice ra rn rc, .int .i64 er]) ∧ Bytes b (.slice ra rn rc) bs' ∧ rn ≤ 1048576 ∧ Below w.heap.size w W ∧ InR x ∧ OneM InR numB bs er x bs' := by
  refine (takeNum_any a n c bs w (h.kept fun k _ hk => hbw.block k hk) hl).mono ?_
  rintro e W ⟨ht, hb⟩
  rcases ht with ⟨x, k, hr, rfl⟩ | ⟨hN, rfl⟩
  · exact ⟨x, _, _, _, _, 0, rfl, h.cut (by have := hr.le; rw [(bytes_len h).1] at this; exact this), by omega, hb, hr.inr, .inl ⟨rfl, hr.inr, hr.eq⟩⟩
  · exact ⟨0, [], none, 0, 0, 30, rfl, (Own.start b).fresh.1.1, Nat.zero_le _, hb, by unfold InR; omega, .inr ⟨rfl, fun y r hy e => hN _ _ (Reads.of hy e)⟩⟩
theorem oVal1_any (a : Option Addr) (n c : Nat) (bs : List UInt8) (b w : World) (hbw : Below b.heap.size b w) (h : Bytes b (.slice a n c) bs) (hl : n ≤ 1048576) : Calls Tryz.prog 58 #[.slice a n c] w fun e W => ∃ (v : VD) (K m cc : Nat) (N : Int) (z : ByteArray) (va : Option Addr) (bs' : List UInt8) (ra : Option Addr) (rn rc : Nat) (er : Int), e = .returned (.tuple #[.agg #[.int .u8 ((K : Nat) : Int), .int .i64 N, .string z, .slice va m cc], .slice ra rn rc, .int .i64 er]) ∧ Bytes b (.slice ra rn rc) bs' ∧ rn ≤ 1048576 ∧ Below w.heap.size w W ∧ (v.At (fun k => w.heap.size ≤ k) W (.agg #[.int .u8 ((K : Nat) : Int), .int .i64 N, .string z, .slice va m cc]) ∧ v.right = true) ∧ OneM PVal VD.bytes bs er v bs' := by
  refine (vTakeB_any a n c bs b w hbw h hl).mono ?_
  rintro e W ⟨ht, hb⟩
  rcases ht with ⟨v, j, u, ra, rc, hv, hA, hB, rfl⟩ | ⟨hN, rfl⟩
  · obtain ⟨K, m, cc, N, z, va, rfl⟩ := hA.form
    have hrt : v.right = true := by unfold VD.right; rw [hv.kinds, decide_eq_true hv.deep, decide_eq_true hv.parts]; rfl
    exact ⟨v, K, m, cc, N, z, va, _, ra, _, rc, 0, rfl, hB, by omega, hb, ⟨hA, hrt⟩, .inl ⟨rfl, ⟨hrt, hv.fits⟩, hv.eq⟩⟩
  · refine ⟨.mk 0 0 [] [], 0, 0, 0, 0, ⟨#[]⟩, none, [], none, 0, 0, 30, rfl, (Own.start b).fresh.1.1, Nat.zero_le _, hb, ⟨?_, by decide⟩, .inr ⟨rfl, fun y r hy e => ?_⟩⟩
    · rw [VD.at_iff]
      exact ⟨none, 0, rfl, by show (0 : Nat) < 256; omega, by show InR 0; unfold InR; omega, Nat.zero_le _, Nat.le_refl _, Nat.zero_le _, fun j hj => absurd hj (Nat.not_lt_zero j)⟩
    · have hr := hy.1
      unfold VD.right at hr
      simp only [Bool.and_eq_true, decide_eq_true_eq] at hr
      exact hN _ _ (VReads.of (r := r) hr.1.1 hr.1.2 hr.2 hy.2 e)
theorem oFrag1_any (a : Option Addr) (n c : Nat) (bs : List UInt8) (b w : World) (hbw : Below b.heap.size b w) (h : Bytes b (.slice a n c) bs) (hl : n ≤ 1048576) : Calls Tryz.prog 60 #[.slice a n c] w fun e W => ∃ (l : List FI) (fa : Option Addr) (fn fc : Nat) (bs' : List UInt8) (ra : Option Addr) (rn rc : Nat) (er : Int), e = .returned (.tuple #[.slice fa fn fc, .slice ra rn rc, .int .i64 er]) ∧ Bytes b (.slice ra rn rc) bs' ∧ rn ≤ 1048576 ∧ Below w.heap.size w W ∧ FragAt (fun k => w.heap.size ≤ k) W l (.slice fa fn fc) ∧ OneM PFrag bytesF bs er l bs' := by
  refine (fTakeN_any a n c bs b w hbw h hl).mono ?_
  rintro e W ⟨l, fa, fn, fc, ra, rn, rc, er, rfl, hF, hb, ⟨rfl, j, hj, hjn, hv, hB⟩ | ⟨rfl, hN, rfl, rfl, rfl, rfl, rfl⟩⟩
  · exact ⟨l, fa, fn, fc, _, ra, rn, rc, 0, rfl, hB, by omega, hb, hF, .inl ⟨rfl, hv.1, by have h1 := hv.taken; rw [← h1]; exact (List.take_append_drop _ _).symm⟩⟩
  · exact ⟨[], fa, 0, fc, [], none, 0, 0, 30, rfl, (Own.start b).fresh.1.1, Nat.zero_le _, hb, hF, .inr ⟨rfl, fun y r hy e => hN _ _ (FReads.of hy e)⟩⟩


/-- The reader's two cells are written: what it holds then. -/
theorem rdO_set {b : World} {g : Nat} {brk b2 : Bool} {a ra : Option Addr} {n c rn rc : Nat} {bs' : List UInt8} {W : World} (h3 : W.heap[g]? = some (.cells #[.slice a n c, .bool brk] 57 (0, 0))) (hW : Below b.heap.size b W) (hg : b.heap.size ≤ g) (hB : Bytes b (.slice ra rn rc) bs') (hn : rn ≤ 1048576) : RdO b g b2 bs' ((W.setCell ⟨g, 0, none⟩ (.slice ra rn rc)).setCell ⟨g, 1, none⟩ (.bool b2)) ∧ ButF g W ((W.setCell ⟨g, 0, none⟩ (.slice ra rn rc)).setCell ⟨g, 1, none⟩ (.bool b2)) :=
  have hu := ((ButF.refl g W).set 0 (.slice ra rn rc)).set 1 (.bool b2)
  ⟨⟨hu.below hW hg, hg, ra, rn, rc, heap_setCell_same _ _ _ _ _ _ (heap_setCell_same _ _ _ _ _ _ h3), hB, hn⟩, hu⟩


/-- What take tells at this type. -/
def TakeNum (b : World) (g : Nat) (brk : Bool) (bs : List UInt8) (w : World) (e : Ending) (W : World) : Prop := ∃ (x : Int) (brk' : Bool) (bs' : List UInt8), e = .returned (.int .i64 x) ∧ InR x ∧ RdO b g brk' bs' W ∧ ButF g w W ∧ Took InR numB brk bs x brk' bs'
set_option maxRecDepth 100000 in
set_option maxHeartbeats 2000000 in
theorem oTakeNum_any (b : World) (g : Nat) (brk : Bool) (bs : List UInt8) (w : World) (h : RdO b g brk bs w) : Calls Tryz.prog 79 #[.pointer (some ⟨g, 0, none⟩), .func (.func 80) #[] #[]] w (TakeNum b g brk bs w) := by
  obtain ⟨hbw, hbg, a, n, c, h3, h4, h5⟩ := h
  obtain ⟨c0, c1, f0, f1⟩ := cells2F h3
  have HT := hide (oNum1_any a n c bs b w hbw h4 h5)
  have HBW := hide hbw
  have HBG := hide hbg
  clear hbw hbg
  have H3 := hide h3
  clear h3 h4 h5
  go_enter Tryz.func79, Tryz.ntmps79
  go_wp2_with fail
  refine (unhide HT).mono ?_
  rintro e w1 ⟨x, bs1, ra, rn, rc, er, rfl, hB, hrn, hb, hx, hO⟩
  obtain ⟨eb, he, hz, ht⟩ := hO.took (fun _ _ _ _ _ _ e => numB_prefix e) brk
  have H31 : Hid (w1.heap[g]? = some (.cells #[.slice a n c, .bool brk] 57 (0, 0))) := (hb.block _ (Array.getElem?_eq_some_iff.1 (unhide H3)).1).trans (unhide H3)
  obtain ⟨k0, k1, r0, r1⟩ := cells2F (unhide H31)
  have HX : Hid (∀ b2 : Bool, b2 = (brk || eb) → TakeNum b g brk bs w (.returned (.int .i64 x)) ((w1.setCell ⟨g, 0, none⟩ (.slice ra rn rc)).setCell ⟨g, 1, none⟩ (.bool b2))) := fun b2 hb2 => by
    obtain ⟨q1, q2⟩ := rdO_set (b2 := b2) (unhide H31) ((unhide HBW).trans (hb.mono (unhide HBW).size)) (unhide HBG) hB hrn
    exact ⟨x, b2, bs1, rfl, hx, q1, (ButF.of hb).trans q2, by rw [hb2]; exact ht⟩
  clear hB hrn hb hx hO ht H3 H31 c0 c1 f0 f1 HT
  cases brk with
  | true =>
    have HF := hide (unhide HX true rfl)
    clear HX
    go_wp2_with fail
    go_ret
    exact unhide HF
  | false =>
    cases eb with
    | true =>
      have HF := hide (unhide HX true rfl)
      have he2 : (er == 0) = false := hz
      clear HX
      go_wp2_with fail
      go_ret
      exact unhide HF
    | false =>
      have HF := hide (unhide HX false rfl)
      have he2 : (er == 0) = true := hz
      clear HX
      go_wp2_with fail
      go_ret
      exact unhide HF


/-- What take tells at this type. -/
def TakeText (b : World) (g : Nat) (brk : Bool) (bs : List UInt8) (w : World) (e : Ending) (W : World) : Prop := ∃ (s : List UInt8) (brk' : Bool) (bs' : List UInt8), e = .returned (.string ⟨s.toArray⟩) ∧ s.length ≤ 400 ∧ RdO b g brk' bs' W ∧ ButF g w W ∧ Took PText textB brk bs s brk' bs'
set_option maxRecDepth 100000 in
set_option maxHeartbeats 2000000 in
theorem oTakeText_any (b : World) (g : Nat) (brk : Bool) (bs : List UInt8) (w : World) (h : RdO b g brk bs w) : Calls Tryz.prog 55 #[.pointer (some ⟨g, 0, none⟩), .func (.func 56) #[] #[]] w (TakeText b g brk bs w) := by
  obtain ⟨hbw, hbg, a, n, c, h3, h4, h5⟩ := h
  obtain ⟨c0, c1, f0, f1⟩ := cells2F h3
  have HT := hide (oText_any a n c bs b w hbw h4 h5)
  have HBW := hide hbw
  have HBG := hide hbg
  clear hbw hbg
  have H3 := hide h3
  clear h3 h4 h5
  go_enter Tryz.func55, Tryz.ntmps55
  go_wp2_with fail
  refine (unhide HT).mono ?_
  rintro e w1 ⟨s, bs1, ra, rn, rc, er, rfl, hB, hrn, hb, hx, hO⟩
  obtain ⟨eb, he, hz, ht⟩ := hO.took (fun _ _ _ _ _ _ e => textB_prefix e) brk
  have H31 : Hid (w1.heap[g]? = some (.cells #[.slice a n c, .bool brk] 57 (0, 0))) := (hb.block _ (Array.getElem?_eq_some_iff.1 (unhide H3)).1).trans (unhide H3)
  obtain ⟨k0, k1, r0, r1⟩ := cells2F (unhide H31)
  have HX : Hid (∀ b2 : Bool, b2 = (brk || eb) → TakeText b g brk bs w (.returned (.string ⟨s.toArray⟩)) ((w1.setCell ⟨g, 0, none⟩ (.slice ra rn rc)).setCell ⟨g, 1, none⟩ (.bool b2))) := fun b2 hb2 => by
    obtain ⟨q1, q2⟩ := rdO_set (b2 := b2) (unhide H31) ((unhide HBW).trans (hb.mono (unhide HBW).size)) (unhide HBG) hB hrn
    exact ⟨s, b2, bs1, rfl, hx, q1, (ButF.of hb).trans q2, by rw [hb2]; exact ht⟩
  clear hB hrn hb hx hO ht H3 H31 c0 c1 f0 f1 HT
  generalize (⟨s.toArray⟩ : ByteArray) = sz at *
  cases brk with
  | true =>
    have HF := hide (unhide HX true rfl)
    clear HX
    go_wp2_with fail
    go_ret
    exact unhide HF
  | false =>
    cases eb with
    | true =>
      have HF := hide (unhide HX true rfl)
      have he2 : (er == 0) = false := hz
      clear HX
      go_wp2_with fail
      go_ret
      exact unhide HF
    | false =>
      have HF := hide (unhide HX false rfl)
      have he2 : (er == 0) = true := hz
      clear HX
      go_wp2_with fail
      go_ret
      exact unhide HF


/-- What take tells at this type. -/
def TakeFrag (b : World) (g : Nat) (brk : Bool) (bs : List UInt8) (w : World) (e : Ending) (W : World) : Prop := ∃ (l : List FI) (fa : Option Addr) (fn fc : Nat) (brk' : Bool) (bs' : List UInt8), e = .returned (.slice fa fn fc) ∧ FragAt (fun k => w.heap.size ≤ k) W l (.slice fa fn fc) ∧ RdO b g brk' bs' W ∧ ButF g w W ∧ Took PFrag bytesF brk bs l brk' bs'
set_option maxRecDepth 100000 in
set_option maxHeartbeats 2000000 in
theorem oTakeFrag_any (b : World) (g : Nat) (brk : Bool) (bs : List UInt8) (w : World) (h : RdO b g brk bs w) : Calls Tryz.prog 59 #[.pointer (some ⟨g, 0, none⟩), .func (.func 60) #[] #[]] w (TakeFrag b g brk bs w) := by
  obtain ⟨hbw, hbg, a, n, c, h3, h4, h5⟩ := h
  obtain ⟨c0, c1, f0, f1⟩ := cells2F h3
  have HT := hide (oFrag1_any a n c bs b w hbw h4 h5)
  have HBW := hide hbw
  have HBG := hide hbg
  clear hbw hbg
  have H3 := hide h3
  clear h3 h4 h5
  go_enter Tryz.func59, Tryz.ntmps59
  go_wp2_with fail
  refine (unhide HT).mono ?_
  rintro e w1 ⟨l, fa, fn, fc, bs1, ra, rn, rc, er, rfl, hB, hrn, hb, hx, hO⟩
  obtain ⟨eb, he, hz, ht⟩ := hO.took (fun _ _ _ _ hx hy e => bytesF_prefix hx hy e) brk
  have H31 : Hid (w1.heap[g]? = some (.cells #[.slice a n c, .bool brk] 57 (0, 0))) := (hb.block _ (Array.getElem?_eq_some_iff.1 (unhide H3)).1).trans (unhide H3)
  obtain ⟨k0, k1, r0, r1⟩ := cells2F (unhide H31)
  have HX : Hid (∀ b2 : Bool, b2 = (brk || eb) → TakeFrag b g brk bs w (.returned (.slice fa fn fc)) ((w1.setCell ⟨g, 0, none⟩ (.slice ra rn rc)).setCell ⟨g, 1, none⟩ (.bool b2))) := fun b2 hb2 => by
    obtain ⟨q1, q2⟩ := rdO_set (b2 := b2) (unhide H31) ((unhide HBW).trans (hb.mono (unhide HBW).size)) (unhide HBG) hB hrn
    exact ⟨l, fa, fn, fc, b2, bs1, rfl, hx.kept (fun k hk hl => q2.block k hl (by have := (Array.getElem?_eq_some_iff.1 (unhide H3)).1; omega)) (fun _ hk _ => hk), q1, (ButF.of hb).trans q2, by rw [hb2]; exact ht⟩
  clear hB hrn hb hx hO ht H3 H31 c0 c1 f0 f1 HT
  cases brk with
  | true =>
    have HF := hide (unhide HX true rfl)
    clear HX
    go_wp2_with fail
    go_ret
    exact unhide HF
  | false =>
    cases eb with
    | true =>
      have HF := hide (unhide HX true rfl)
      have he2 : (er == 0) = false := hz
      clear HX
      go_wp2_with fail
      go_ret
      exact unhide HF
    | false =>
      have HF := hide (unhide HX false rfl)
      have he2 : (er == 0) = true := hz
      clear HX
      go_wp2_with fail
      go_ret
      exact unhide HF

end Go.Proofs.YtdlbpbglidhlfaaGreatDoor
