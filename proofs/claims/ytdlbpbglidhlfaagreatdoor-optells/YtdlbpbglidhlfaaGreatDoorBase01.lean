/- FragMath, OpMath, GenOwn, GenStep, ValMem: our own definitions and contracts; no statement of the seat is proved here. -/
import Derived.Test.YtdlbpbglidhlfaaGreatDoorBase00
namespace Go.Proofs.YtdlbpbglidhlfaaGreatDoor

/-- May a name have that byte? -/
def chB (c : UInt8) : Bool := (decide (97 ≤ c.toNat) && decide (c.toNat ≤ 122)) || (decide (48 ≤ c.toNat) && decide (c.toNat ≤ 57)) || decide (c.toNat = 95)
/-- Is it a name? -/
def nameB (s : List UInt8) : Bool := decide (1 ≤ s.length) && decide (s.length ≤ 20) && s.all chB
theorem nameB_len {s : List UInt8} (h : nameB s = true) : s.length ≤ 20 := by
  unfold nameB at h
  simp only [Bool.and_eq_true, decide_eq_true_eq] at h
  exact h.1.2

/-- An item. -/
structure FI where
  name : List UInt8
  k : Nat
  after : List (List UInt8)
  over : List UInt8
  width : Int
  quota : Int
namespace FI
/-- What is over and how wide, as its kind has it. -/
def kindOk (p : List UInt8 → Bool) (x : FI) : Bool := (decide (x.k = 0) && x.over.isEmpty && decide (x.width = 0)) || (decide (x.k = 1) && p x.over && decide (0 ≤ x.width) && decide (x.width ≤ 40))
/-- Of a right form, where p asks of texts. -/
def okP (p : List UInt8 → Bool) (x : FI) : Bool := p x.name && decide (x.after.length ≤ 20) && x.after.all p && (decide (0 ≤ x.quota) && decide (x.quota ≤ 400)) && x.kindOk p
def right (x : FI) : Bool := x.okP nameB
def same (x y : FI) : Bool := decide (x.name = y.name) && decide (x.k = y.k) && decide (x.after = y.after) && decide (x.over = y.over) && decide (x.width = y.width) && decide (x.quota = y.quota)
def tail (x : FI) : List UInt8 := if x.k = 1 then textB x.over ++ numB x.width else []
def bytes (x : FI) : List UInt8 := textB x.name ++ (numB ((x.k : Nat) : Int) ++ (numB ((x.after.length : Nat) : Int) ++ (x.after.flatMap textB ++ (numB x.quota ++ x.tail))))
theorem same_iff (x y : FI) : x.same y = true ↔ x = y := by
  obtain ⟨a, b, c, d, e, f⟩ := x
  obtain ⟨a', b', c', d', e', f'⟩ := y
  unfold same
  simp only [Bool.and_eq_true, decide_eq_true_eq, FI.mk.injEq]
  constructor
  · rintro ⟨⟨⟨⟨⟨h1, h2⟩, h3⟩, h4⟩, h5⟩, h6⟩; exact ⟨h1, h2, h3, h4, h5, h6⟩
  · rintro ⟨h1, h2, h3, h4, h5, h6⟩; exact ⟨⟨⟨⟨⟨h1, h2⟩, h3⟩, h4⟩, h5⟩, h6⟩
end FI
/-- A fragment of a right form. -/
def rightF (l : List FI) : Bool := decide (l.length ≤ 40) && l.all FI.right
def bytesF (l : List FI) : List UInt8 := numB ((l.length : Nat) : Int) ++ l.flatMap FI.bytes
def sameF : List FI → List FI → Bool
  | [], [] => true
  | x :: l, y :: m => x.same y && sameF l m
  | _, _ => false
theorem sameF_iff : ∀ (l m : List FI), sameF l m = true ↔ l = m
  | [], [] => by simp [sameF]
  | [], y :: m => by simp [sameF]
  | x :: l, [] => by simp [sameF]
  | x :: l, y :: m => by
    simp only [sameF, Bool.and_eq_true, List.cons.injEq]
    rw [FI.same_iff, sameF_iff l m]
theorem sameF_self (l : List FI) : sameF l l = true := (sameF_iff l l).2 rfl
theorem sameF_false {l m : List FI} (h : l ≠ m) : sameF l m = false := by
  rw [Bool.eq_false_iff]
  intro e
  exact h ((sameF_iff l m).1 e)

/-- What reads parts off bytes: of none nothing is read; what is read is right, and was there; what is right, and there, is read. -/
structure Codec {α : Type} (f : Option (List UInt8) → α × Option (List UInt8)) (P : α → Prop) (enc : α → List UInt8) : Prop where
  stop : (f none).2 = none
  sound : ∀ bs x r, f (some bs) = (x, some r) → P x ∧ bs = enc x ++ r
  full : ∀ x r, P x → f (some (enc x ++ r)) = (x, some r)
theorem Codec.inj {α : Type} {f : Option (List UInt8) → α × Option (List UInt8)} {P : α → Prop} {enc : α → List UInt8} (h : Codec f P enc) {x y : α} {r q : List UInt8} (hx : P x) (hy : P y) (he : enc x ++ r = enc y ++ q) : x = y ∧ r = q := by
  have h1 := h.full x r hx
  rw [he, h.full y q hy] at h1
  simp only [Prod.mk.injEq, Option.some.injEq] at h1
  exact ⟨h1.1.symm, h1.2.symm⟩
theorem Codec.no {α : Type} {f : Option (List UInt8) → α × Option (List UInt8)} {P : α → Prop} {enc : α → List UInt8} (h : Codec f P enc) {bs : List UInt8} (hn : (f (some bs)).2 = none) {x : α} {r : List UInt8} (hx : P x) : bs ≠ enc x ++ r := fun e => by
  rw [e, h.full x r hx] at hn
  cases hn
/-- What is left is an end of what was there. -/
theorem Codec.len {α : Type} {f : Option (List UInt8) → α × Option (List UInt8)} {P : α → Prop} {enc : α → List UInt8} (h : Codec f P enc) {bs : List UInt8} {x : α} {r : List UInt8} (e : f (some bs) = (x, some r)) : r = bs.drop (enc x).length ∧ bs.length = (enc x).length + r.length := by
  obtain ⟨_, e1⟩ := h.sound bs x r e
  rw [e1]
  simp

open Classical in
/-- A number from 0 to most. -/
noncomputable def numO (most : Nat) (bs : List UInt8) : Nat × Option (List UInt8) := if h : ∃ n : Nat, ∃ k, Reads bs ((n : Nat) : Int) k ∧ n ≤ most then (h.choose, some (bs.drop h.choose_spec.choose)) else (0, none)
noncomputable def numS (most : Nat) : Option (List UInt8) → Nat × Option (List UInt8)
  | none => (0, none)
  | some bs => numO most bs
theorem numS_ok {most : Nat} {bs : List UInt8} {n k : Nat} (h : Reads bs ((n : Nat) : Int) k) (hn : n ≤ most) : numS most (some bs) = (n, some (bs.drop k)) := by
  have hx : ∃ n : Nat, ∃ k, Reads bs ((n : Nat) : Int) k ∧ n ≤ most := ⟨n, k, h, hn⟩
  show numO most bs = _
  unfold numO
  rw [dif_pos hx]
  obtain ⟨e1, e2⟩ := h.same hx.choose_spec.choose_spec.1
  have e1' : hx.choose = n := by omega
  rw [← e2, e1']
theorem numS_no {most : Nat} {bs : List UInt8} (h : ∀ (n k : Nat), Reads bs ((n : Nat) : Int) k → most < n) : numS most (some bs) = (0, none) := by
  show numO most bs = _
  unfold numO
  rw [dif_neg]
  rintro ⟨n, k, h1, h2⟩
  have := h n k h1
  omega
theorem numS_none (most : Nat) : numS most none = (0, none) := rfl
theorem numS_codec {most : Nat} (hm : most ≤ 1000000) : Codec (numS most) (fun n => n ≤ most) (fun n => numB ((n : Nat) : Int)) := by
  refine ⟨rfl, fun bs x r h => ?_, fun x r hx => ?_⟩
  · replace h : numO most bs = _ := h
    unfold numO at h
    split at h
    · rename_i hx
      obtain ⟨h1, h2⟩ := hx.choose_spec.choose_spec
      simp only [Prod.mk.injEq, Option.some.injEq] at h
      obtain ⟨rfl, rfl⟩ := h
      exact ⟨h2, h1.eq⟩
    · simp only [Prod.mk.injEq] at h
      cases h.2
  · have hr := Reads.of (b := numB ((x : Nat) : Int) ++ r) (r := r) (n := ((x : Nat) : Int)) (by unfold InR; omega) rfl
    rw [numS_ok hr hx, List.drop_left' rfl]
open Classical in
/-- A text of at most 20 bytes of which p is told. -/
noncomputable def textO (p : List UInt8 → Bool) (bs : List UInt8) : List UInt8 × Option (List UInt8) := if h : ∃ s k, ReadsT bs 20 s k ∧ p s = true then (h.choose, some (bs.drop (h.choose_spec.choose + h.choose.length))) else ([], none)
noncomputable def textS (p : List UInt8 → Bool) : Option (List UInt8) → List UInt8 × Option (List UInt8)
  | none => ([], none)
  | some bs => textO p bs
theorem textS_ok {p : List UInt8 → Bool} {bs s : List UInt8} {k : Nat} (h : ReadsT bs 20 s k) (hp : p s = true) : textS p (some bs) = (s, some (bs.drop (k + s.length))) := by
  have hx : ∃ s k, ReadsT bs 20 s k ∧ p s = true := ⟨s, k, h, hp⟩
  show textO p bs = _
  unfold textO
  rw [dif_pos hx]
  obtain ⟨e1, e2⟩ := h.same hx.choose_spec.choose_spec.1
  rw [← e2, ← e1]
theorem textS_no {p : List UInt8 → Bool} {bs : List UInt8} (h : ∀ s k, ReadsT bs 20 s k → p s = false) : textS p (some bs) = ([], none) := by
  show textO p bs = _
  unfold textO
  rw [dif_neg]
  rintro ⟨s, k, h1, h2⟩
  rw [h s k h1] at h2
  cases h2
theorem textS_none (p : List UInt8 → Bool) : textS p none = ([], none) := rfl
def txP (p : List UInt8 → Bool) (s : List UInt8) : Bool := decide (s.length ≤ 20) && p s
theorem txP_name : txP nameB = nameB := by
  funext s
  unfold txP
  rcases h : nameB s with _ | _
  · simp
  · rw [decide_eq_true (nameB_len h)]; rfl
theorem textS_codec (p : List UInt8 → Bool) : Codec (textS p) (fun s => txP p s = true) textB := by
  refine ⟨rfl, fun bs x r h => ?_, fun x r hx => ?_⟩
  · replace h : textO p bs = _ := h
    unfold textO at h
    split at h
    · rename_i hx
      obtain ⟨h1, h2⟩ := hx.choose_spec.choose_spec
      simp only [Prod.mk.injEq, Option.some.injEq] at h
      obtain ⟨rfl, rfl⟩ := h
      have h3 := h1.most
      refine ⟨?_, h1.whole⟩
      unfold txP
      rw [h2, decide_eq_true (by omega)]
      rfl
    · simp only [Prod.mk.injEq] at h
      cases h.2
  · unfold txP at hx
    simp only [Bool.and_eq_true, decide_eq_true_eq] at hx
    have hr := ReadsT.of (b := textB x ++ r) (r := r) (s := x) (most := 20) (by unfold InR; omega) (by omega) rfl
    rw [textS_ok hr hx.2]
    have : (numB ((x.length : Nat) : Int)).length + x.length = (textB x).length := by unfold textB; rw [List.length_append]
    rw [this, List.drop_left' rfl]

/-- So many, one behind the other. -/
def listS {α : Type} (f : Option (List UInt8) → α × Option (List UInt8)) : Nat → Option (List UInt8) → List α × Option (List UInt8)
  | 0, st => ([], st)
  | n + 1, st => ((listS f n st).1 ++ [(f (listS f n st).2).1], (f (listS f n st).2).2)
theorem listS_len {α : Type} (f : Option (List UInt8) → α × Option (List UInt8)) : ∀ n st, (listS f n st).1.length = n
  | 0, st => rfl
  | n + 1, st => by simp only [listS, List.length_append, List.length_singleton]; rw [listS_len f n st]
theorem Codec.listNone {α : Type} {f : Option (List UInt8) → α × Option (List UInt8)} {P : α → Prop} {enc : α → List UInt8} (h : Codec f P enc) : ∀ n, (listS f n none).2 = none
  | 0 => rfl
  | n + 1 => by simp only [listS]; rw [h.listNone n, h.stop]
theorem Codec.listSound {α : Type} {f : Option (List UInt8) → α × Option (List UInt8)} {P : α → Prop} {enc : α → List UInt8} (h : Codec f P enc) : ∀ n bs l r, listS f n (some bs) = (l, some r) → l.length = n ∧ (∀ x ∈ l, P x) ∧ bs = l.flatMap enc ++ r
  | 0, bs, l, r, e => by
    simp only [listS, Prod.mk.injEq, Option.some.injEq] at e
    obtain ⟨rfl, rfl⟩ := e
    exact ⟨rfl, fun x hx => (by cases hx), by simp⟩
  | n + 1, bs, l, r, e => by
    simp only [listS, Prod.mk.injEq] at e
    obtain ⟨e1, e2⟩ := e
    cases hs : (listS f n (some bs)).2 with
    | none => rw [hs, h.stop] at e2; cases e2
    | some q =>
      obtain ⟨h1, h2, h3⟩ := h.listSound n bs (listS f n (some bs)).1 q (by rw [← hs])
      rw [hs] at e1 e2
      obtain ⟨h4, h5⟩ := h.sound q (f (some q)).1 r (by rw [← e2])
      refine ⟨by rw [← e1, List.length_append, h1]; rfl, fun x hx => ?_, ?_⟩
      · rw [← e1] at hx
        rcases List.mem_append.1 hx with hx | hx
        · exact h2 x hx
        · rw [List.mem_singleton.1 hx]; exact h4
      · conv => { lhs; rw [h3, h5] }
        rw [← e1]
        simp [List.append_assoc]
theorem Codec.listFull {α : Type} {f : Option (List UInt8) → α × Option (List UInt8)} {P : α → Prop} {enc : α → List UInt8} (h : Codec f P enc) : ∀ n (l : List α) r, l.length = n → (∀ x ∈ l, P x) → listS f n (some (l.flatMap enc ++ r)) = (l, some r)
  | 0, l, r, hl, hP => by
    obtain rfl := List.eq_nil_of_length_eq_zero hl
    simp [listS]
  | n + 1, l, r, hl, hP => by
    have hne : l ≠ [] := by intro e; rw [e] at hl; simp at hl
    obtain ⟨q, x, rfl⟩ : ∃ q x, l = q ++ [x] := ⟨l.dropLast, l.getLast hne, (List.dropLast_concat_getLast hne).symm⟩
    have hq : q.length = n := by simpa using hl
    have h1 := h.listFull n q (enc x ++ r) hq (fun y hy => hP y (by simp [hy]))
    have h2 := h.full x r (hP x (by simp))
    have e : (q ++ [x]).flatMap enc ++ r = q.flatMap enc ++ (enc x ++ r) := by simp [List.append_assoc]
    rw [e]
    simp only [listS, h1, h2]

/-- An item. -/
noncomputable def itemS (p : List UInt8 → Bool) (st : Option (List UInt8)) : FI × Option (List UInt8) :=
  let a := textS p st
  let b := numS 1 a.2
  let c := numS 20 b.2
  let d := listS (textS p) c.1 c.2
  let e := numS 400 d.2
  if b.1 = 1 then
    let f := textS p e.2
    let g := numS 40 f.2
    (⟨a.1, b.1, d.1, f.1, ((g.1 : Nat) : Int), ((e.1 : Nat) : Int)⟩, g.2)
  else (⟨a.1, b.1, d.1, [], 0, ((e.1 : Nat) : Int)⟩, e.2)
theorem itemS_codec (p : List UInt8 → Bool) : Codec (itemS p) (fun x => x.okP (txP p) = true) FI.bytes := by
  have cT := textS_codec p
  have c1 := numS_codec (most := 1) (by omega)
  have c20 := numS_codec (most := 20) (by omega)
  have c400 := numS_codec (most := 400) (by omega)
  have c40 := numS_codec (most := 40) (by omega)
  refine ⟨?_, fun bs x r h => ?_, fun x r hx => ?_⟩
  · unfold itemS
    simp only [textS_none, numS_none]
    simp [listS, numS_none]
  · unfold itemS at h
    dsimp only at h
    cases ha : textS p (some bs) with
    | mk av as1 =>
    rw [ha] at h
    cases as1 with
    | none =>
      exfalso
      simp only [numS_none] at h
      simp [listS, numS_none] at h
    | some as1 =>
    obtain ⟨pa, ea⟩ := cT.sound _ _ _ ha
    cases hb : numS 1 (some as1) with
    | mk bv bs' =>
    rw [hb] at h
    cases bs' with
    | none =>
      exfalso
      simp only [numS_none, listS] at h
      split at h <;> simp [textS_none, numS_none] at h
    | some bs' =>
    obtain ⟨pb, eb⟩ := c1.sound _ _ _ hb
    cases hc : numS 20 (some bs') with
    | mk cv cs =>
    rw [hc] at h
    cases cs with
    | none =>
      exfalso
      have hd := cT.listNone cv
      dsimp only at h
      rw [hd] at h
      split at h <;> simp [textS_none, numS_none] at h
    | some cs =>
    obtain ⟨pc, ec⟩ := c20.sound _ _ _ hc
    dsimp only at h
    cases hd : listS (textS p) cv (some cs) with
    | mk dv ds =>
    rw [hd] at h
    cases ds with
    | none =>
      exfalso
      split at h <;> simp [textS_none, numS_none] at h
    | some ds =>
    obtain ⟨ld, pd, ed⟩ := cT.listSound _ _ _ _ hd
    dsimp only at h
    cases he : numS 400 (some ds) with
    | mk ev es =>
    rw [he] at h
    cases es with
    | none =>
      exfalso
      split at h <;> simp [textS_none, numS_none] at h
    | some es =>
    obtain ⟨pe, ee⟩ := c400.sound _ _ _ he
    dsimp only at h
    by_cases hk : bv = 1
    · rw [if_pos hk] at h
      cases hf : textS p (some es) with
      | mk fv fs =>
      rw [hf] at h
      cases fs with
      | none => exfalso; simp [numS_none] at h
      | some fs =>
      obtain ⟨pf, ef⟩ := cT.sound _ _ _ hf
      dsimp only at h
      cases hg : numS 40 (some fs) with
      | mk gv gs =>
      rw [hg] at h
      simp only [Prod.mk.injEq] at h
      obtain ⟨rfl, rfl⟩ := h
      obtain ⟨pg, eg⟩ := c40.sound _ _ _ hg
      refine ⟨?_, ?_⟩
      · unfold FI.okP FI.kindOk
        dsimp only
        rw [pa, pf, decide_eq_true (show dv.length ≤ 20 by omega), List.all_eq_true.2 pd, decide_eq_true (show (0 : Int) ≤ ((ev : Nat) : Int) by omega), decide_eq_true (show ((ev : Nat) : Int) ≤ 400 by omega), decide_eq_true hk, decide_eq_true (show (0 : Int) ≤ ((gv : Nat) : Int) by omega), decide_eq_true (show ((gv : Nat) : Int) ≤ 40 by omega)]
        simp
      · unfold FI.bytes FI.tail
        dsimp only
        rw [if_pos hk, ea, eb, ec, ed, ee, ef, eg, ld]
        simp only [List.append_assoc]
    · rw [if_neg hk] at h
      simp only [Prod.mk.injEq, Option.some.injEq] at h
      obtain ⟨rfl, rfl⟩ := h
      have hb0 : bv = 0 := by omega
      refine ⟨?_, ?_⟩
      · unfold FI.okP FI.kindOk
        dsimp only
        rw [pa, decide_eq_true (show dv.length ≤ 20 by omega), List.all_eq_true.2 pd, decide_eq_true (show (0 : Int) ≤ ((ev : Nat) : Int) by omega), decide_eq_true (show ((ev : Nat) : Int) ≤ 400 by omega), decide_eq_true hb0]
        simp
      · unfold FI.bytes FI.tail
        dsimp only
        rw [if_neg hk, ea, eb, ec, ed, ee, ld]
        simp only [List.append_assoc, List.nil_append]
  · obtain ⟨nm, k, af, ov, wd, qt⟩ := x
    unfold FI.okP at hx
    simp only [Bool.and_eq_true, decide_eq_true_eq] at hx
    obtain ⟨⟨⟨⟨hn, hal⟩, haa⟩, hq0, hq⟩, hko⟩ := hx
    have hap := List.all_eq_true.1 haa
    obtain ⟨Q, hQ⟩ : ∃ Q : Nat, qt = ((Q : Nat) : Int) := ⟨qt.toNat, by omega⟩
    subst hQ
    unfold FI.kindOk at hko
    simp only [Bool.or_eq_true, Bool.and_eq_true, decide_eq_true_eq, List.isEmpty_iff] at hko
    have hk1 : k ≤ 1 := by rcases hko with ⟨⟨h, _⟩, _⟩ | ⟨⟨⟨h, _⟩, _⟩, _⟩ <;> omega
    unfold itemS FI.bytes
    simp only [List.append_assoc]
    rw [cT.full nm _ hn]
    dsimp only
    rw [c1.full k _ hk1]
    dsimp only
    rw [c20.full af.length _ hal]
    dsimp only
    rw [cT.listFull af.length af _ rfl hap]
    dsimp only
    rw [c400.full Q _ (by omega)]
    dsimp only
    rcases hko with ⟨⟨hk, ho⟩, hw⟩ | ⟨⟨⟨hk, ho⟩, hw0⟩, hw⟩
    · subst hk ho hw
      unfold FI.tail
      simp
    · subst hk
      obtain ⟨G, hG⟩ : ∃ G : Nat, wd = ((G : Nat) : Int) := ⟨wd.toNat, by omega⟩
      subst hG
      rw [if_pos rfl]
      unfold FI.tail
      rw [if_pos rfl]
      dsimp only
      simp only [List.append_assoc]
      rw [cT.full ov _ ho]
      dsimp only
      rw [c40.full G _ (by omega)]
/-- A fragment. -/
noncomputable def fragS (p : List UInt8 → Bool) (st : Option (List UInt8)) : List FI × Option (List UInt8) :=
  let c := numS 40 st
  listS (itemS p) c.1 c.2
theorem fragS_codec (p : List UInt8 → Bool) : Codec (fragS p) (fun l => l.length ≤ 40 ∧ ∀ x ∈ l, x.okP (txP p) = true) bytesF := by
  have cI := itemS_codec p
  have c40 := numS_codec (most := 40) (by omega)
  refine ⟨?_, fun bs x r h => ?_, fun x r hx => ?_⟩
  · unfold fragS
    simp only [numS_none]
    rfl
  · unfold fragS at h
    dsimp only at h
    cases hc : numS 40 (some bs) with
    | mk cv cs =>
    rw [hc] at h
    cases cs with
    | none =>
      exfalso
      dsimp only at h
      have := cI.listNone cv
      rw [h] at this
      cases this
    | some cs =>
    obtain ⟨pc, ec⟩ := c40.sound _ _ _ hc
    obtain ⟨ll, pl, el⟩ := cI.listSound _ _ _ _ h
    refine ⟨⟨by omega, pl⟩, ?_⟩
    unfold bytesF
    rw [ll, ec, el]
    simp only [List.append_assoc]
  · obtain ⟨h1, h2⟩ := hx
    unfold fragS bytesF
    simp only [List.append_assoc]
    rw [c40.full x.length _ h1]
    dsimp only
    exact cI.listFull x.length x r rfl h2
theorem rightF_iff (l : List FI) : rightF l = true ↔ l.length ≤ 40 ∧ ∀ x ∈ l, x.okP (txP nameB) = true := by
  unfold rightF
  rw [txP_name]
  simp only [Bool.and_eq_true, decide_eq_true_eq, List.all_eq_true]
  rfl

/-- b begins with the bytes of the fragment l, of a right form; they are j. -/
structure FReads (b : List UInt8) (l : List FI) (j : Nat) : Prop where
  right : rightF l = true
  len : j = (bytesF l).length
  eq : b = bytesF l ++ b.drop j
def NoFrag (b : List UInt8) : Prop := ∀ l j, ¬ FReads b l j
theorem FReads.of {b r : List UInt8} {l : List FI} (h : rightF l = true) (e : b = bytesF l ++ r) : FReads b l (bytesF l).length := ⟨h, rfl, by rw [e]; simp⟩
theorem FReads.run {b : List UInt8} {l : List FI} {j : Nat} (h : FReads b l j) : fragS nameB (some b) = (l, some (b.drop j)) := by
  rw [h.eq]
  rw [(fragS_codec nameB).full l _ ((rightF_iff l).1 h.right), h.len, List.drop_left' rfl]
theorem fragS_reads {b r : List UInt8} {l : List FI} (h : fragS nameB (some b) = (l, some r)) : FReads b l (bytesF l).length ∧ r = b.drop (bytesF l).length := by
  obtain ⟨h1, h2⟩ := (fragS_codec nameB).sound _ _ _ h
  exact ⟨FReads.of ((rightF_iff l).2 h1) h2, by rw [h2]; simp⟩
theorem fragS_no {b : List UInt8} {l : List FI} (h : fragS nameB (some b) = (l, none)) : NoFrag b := fun l' j hr => by
  rw [hr.run] at h
  cases h
theorem FReads.same {b : List UInt8} {l m : List FI} {i j : Nat} (h : FReads b l i) (h' : FReads b m j) : l = m ∧ i = j := by
  have e := h.run.symm.trans h'.run
  simp only [Prod.mk.injEq] at e
  obtain ⟨rfl, _⟩ := e
  exact ⟨rfl, by rw [h.len, h'.len]⟩
theorem FReads.le {b : List UInt8} {l : List FI} {j : Nat} (h : FReads b l j) : j ≤ b.length := by
  have := congrArg List.length h.eq
  rw [List.length_append, ← h.len] at this
  omega
theorem FReads.taken {b : List UInt8} {l : List FI} {j : Nat} (h : FReads b l j) : b.take j = bytesF l := by
  rw [h.eq, h.len, List.take_left' rfl]
theorem bytesF_prefix {l m : List FI} {r q : List UInt8} (hl : rightF l = true) (hm : rightF m = true) (h : bytesF l ++ r = bytesF m ++ q) : l = m ∧ r = q := (fragS_codec nameB).inj ((rightF_iff l).1 hl) ((rightF_iff m).1 hm) h
/-- Nothing less of its bytes is a fragment. -/
theorem noFrag_less {l : List FI} {i : Nat} (hl : rightF l = true) (h : i < (bytesF l).length) : NoFrag ((bytesF l).take i) := fun m j hr => by
  have e := hr.eq
  have h2 : bytesF m ++ (((bytesF l).take i).drop j ++ (bytesF l).drop i) = bytesF l ++ [] := by
    rw [← List.append_assoc, ← e, List.take_append_drop, List.append_nil]
  obtain ⟨_, h3⟩ := bytesF_prefix hr.right hl h2
  have h4 := congrArg List.length h3
  simp only [List.length_append, List.length_drop, List.length_nil] at h4
  omega
/-- Unlike right fragments have unlike bytes. -/
theorem bytesF_part {l m : List FI} (hl : rightF l = true) (hm : rightF m = true) : bytesF l = bytesF m ↔ l = m := by
  constructor
  · intro h
    exact (bytesF_prefix (r := []) (q := []) hl hm (by rw [h])).1
  · intro h; rw [h]

/-- How long. -/
theorem textB_le {s : List UInt8} {m : Nat} (h : s.length ≤ m) (hm : m ≤ 1000000) : (textB s).length ≤ m + 10 := by
  unfold textB
  rw [List.length_append]
  have := numB_ten (n := ((s.length : Nat) : Int)) (by unfold InR; omega)
  omega
theorem flat_le {α : Type} {f : α → List UInt8} {m : Nat} : ∀ {l : List α}, (∀ x ∈ l, (f x).length ≤ m) → (l.flatMap f).length ≤ m * l.length
  | [], _ => by simp
  | x :: l, h => by
    have h1 := h x (by simp)
    have h2 := flat_le (l := l) (fun y hy => h y (by simp [hy]))
    rw [List.flatMap_cons, List.length_append, List.length_cons, Nat.mul_succ]
    omega
theorem FI.bytes_le {x : FI} (h : x.right = true) : x.bytes.length ≤ 760 := by
  unfold FI.right FI.okP at h
  simp only [Bool.and_eq_true, decide_eq_true_eq] at h
  obtain ⟨⟨⟨⟨hn, hal⟩, haa⟩, hq0, hq⟩, hko⟩ := h
  have h1 := textB_le (nameB_len hn) (by omega)
  have h2 := flat_le (f := textB) (m := 30) (l := x.after) (fun s hs => textB_le (nameB_len (List.all_eq_true.1 haa s hs)) (by omega))
  have hk : x.k ≤ 1 := by
    unfold FI.kindOk at hko
    simp only [Bool.or_eq_true, Bool.and_eq_true, decide_eq_true_eq] at hko
    rcases hko with ⟨⟨h, _⟩, _⟩ | ⟨⟨⟨h, _⟩, _⟩, _⟩ <;> omega
  have h3 : x.tail.length ≤ 40 := by
    unfold FI.tail
    split
    · rename_i hk1
      unfold FI.kindOk at hko
      simp only [Bool.or_eq_true, Bool.and_eq_true, decide_eq_true_eq] at hko
      rcases hko with ⟨⟨h, _⟩, _⟩ | ⟨⟨⟨_, ho⟩, hw0⟩, hw⟩
      · omega
      · have h5 := textB_le (nameB_len ho) (by omega)
        have h6 := numB_ten (n := x.width) (by unfold InR; omega)
        rw [List.length_append]
        omega
    · simp
  have h4 := numB_ten (n := ((x.k : Nat) : Int)) (by unfold InR; omega)
  have h5 := numB_ten (n := ((x.after.length : Nat) : Int)) (by unfold InR; omega)
  have h6 := numB_ten (n := x.quota) (by unfold InR; omega)
  have h7 : 30 * x.after.length ≤ 600 := by omega
  unfold FI.bytes
  simp only [List.length_append]
  omega
theorem bytesF_le {l : List FI} (h : rightF l = true) : (bytesF l).length ≤ 31000 := by
  unfold rightF at h
  simp only [Bool.and_eq_true, decide_eq_true_eq] at h
  have h1 := flat_le (f := FI.bytes) (m := 760) (l := l) (fun x hx => FI.bytes_le (List.all_eq_true.1 h.2 x hx))
  have h2 := numB_ten (n := ((l.length : Nat) : Int)) (by unfold InR; omega)
  have h3 : 760 * l.length ≤ 30400 := by omega
  unfold bytesF
  rw [List.length_append]
  omega
theorem bytesF_pos (l : List FI) : 0 < (bytesF l).length := by
  unfold bytesF
  rw [List.length_append]
  have := numB_pos ((l.length : Nat) : Int)
  omega
end Go.Proofs.YtdlbpbglidhlfaaGreatDoor

namespace Go.Proofs.YtdlbpbglidhlfaaGreatDoor

/-- May an id's text have that byte? -/
def idCh (c : UInt8) : Bool := decide (33 ≤ c.toNat) && decide (c.toNat ≤ 126)
/-- Is it an id's text? -/
def idB (s : List UInt8) : Bool := decide (1 ≤ s.length) && decide (s.length ≤ 400) && s.all idCh
theorem idB_len {s : List UInt8} (h : idB s = true) : 1 ≤ s.length ∧ s.length ≤ 400 := by
  unfold idB at h
  simp only [Bool.and_eq_true, decide_eq_true_eq] at h
  exact h.1

/-- The value that is the number 0. -/
def zeroD : VD := .mk 0 0 [] []
theorem zeroD_right : zeroD.right = true := by decide

/-- An operation. -/
structure OD where
  what : Nat
  id : List UInt8
  token : Int
  value : VD
  frag : List FI
  quota : Int
namespace OD
/-- Of a right form: a: which parts are right; s: which are something. -/
def form (w : Nat) (a0 a1 a2 a3 a4 s0 s1 s2 s3 s4 : Bool) : Bool :=
  match w with
  | 1 => a3 && a4 && !s0 && !s1 && !s2
  | 2 => a0 && !s1 && !s2 && !s3 && !s4
  | 3 => a0 && a1 && a2 && a3 && !s4
  | 4 => a0 && a1 && !s2 && !s3 && !s4
  | 5 => a0 && !s1 && !s2 && !s3 && !s4
  | _ => false
def isZ (o : OD) : Bool := o.value.same zeroD
def right (o : OD) : Bool := form o.what (idB o.id) (decide (1 ≤ o.token)) o.value.right (rightF o.frag) (decide (0 ≤ o.quota) && decide (o.quota ≤ 400)) (!o.id.isEmpty) (decide (o.token ≠ 0)) (!o.isZ) (!o.frag.isEmpty) (decide (o.quota ≠ 0))
/-- The parts of what a kind has, each a bit. -/
def has : Nat → Nat
  | 1 => 24
  | 2 => 1
  | 3 => 15
  | 4 => 3
  | 5 => 1
  | _ => 0
def bits (b0 b1 b2 b3 b4 : Bool) : Nat := b0.toNat + 2 * b1.toNat + 4 * b2.toNat + 8 * b3.toNat + 16 * b4.toNat
theorem bits_lt (b0 b1 b2 b3 b4 : Bool) : bits b0 b1 b2 b3 b4 < 32 := by revert b0 b1 b2 b3 b4; decide
/-- Are all of s among p? -/
def sub (s p : Nat) : Bool := decide (s &&& p = s)
theorem form_bits (w : Nat) (a0 a1 a2 a3 a4 s0 s1 s2 s3 s4 : Bool) : form w a0 a1 a2 a3 a4 s0 s1 s2 s3 s4 = (decide (has w ≠ 0) && (sub (has w) (bits a0 a1 a2 a3 a4) && sub (bits s0 s1 s2 s3 s4) (has w))) := by
  match w with
  | 0 => rfl
  | 1 => revert a0 a1 a2 a3 a4 s0 s1 s2 s3 s4; decide +kernel
  | 2 => revert a0 a1 a2 a3 a4 s0 s1 s2 s3 s4; decide +kernel
  | 3 => revert a0 a1 a2 a3 a4 s0 s1 s2 s3 s4; decide +kernel
  | 4 => revert a0 a1 a2 a3 a4 s0 s1 s2 s3 s4; decide +kernel
  | 5 => revert a0 a1 a2 a3 a4 s0 s1 s2 s3 s4; decide +kernel
  | n + 6 => rfl
theorem has_lt (w : Nat) : has w < 32 := by unfold has; split <;> omega
def same (o p : OD) : Bool := decide (o.what = p.what) && decide (o.id = p.id) && decide (o.token = p.token) && decide (o.quota = p.quota) && o.value.same p.value && sameF o.frag p.frag
theorem ext {o p : OD} (h1 : o.what = p.what) (h2 : o.id = p.id) (h3 : o.token = p.token) (h4 : o.value = p.value) (h5 : o.frag = p.frag) (h6 : o.quota = p.quota) : o = p := by
  obtain ⟨a, b, c, d, e, f⟩ := o
  obtain ⟨a', b', c', d', e', f'⟩ := p
  simp only at h1 h2 h3 h4 h5 h6
  subst h1 h2 h3 h4 h5 h6
  rfl
theorem same_iff (o p : OD) : o.same p = true ↔ o = p := by
  unfold same
  simp only [Bool.and_eq_true, decide_eq_true_eq, VD.same_iff, sameF_iff]
  constructor
  · rintro ⟨⟨⟨⟨⟨h1, h2⟩, h3⟩, h4⟩, h5⟩, h6⟩; exact ext h1 h2 h3 h5 h6 h4
  · rintro rfl; exact ⟨⟨⟨⟨⟨rfl, rfl⟩, rfl⟩, rfl⟩, rfl⟩, rfl⟩
theorem same_self (o : OD) : o.same o = true := (same_iff o o).2 rfl
theorem same_false {o p : OD} (h : o ≠ p) : o.same p = false := by
  rw [Bool.eq_false_iff]
  intro e
  exact h ((same_iff o p).1 e)

def part (b : Bool) (l : List UInt8) : List UInt8 := if b then l else []
/-- Its bytes: the kind, and what it has, in one order. -/
def bytes (o : OD) : List UInt8 := numB ((o.what : Nat) : Int) ++ (part (sub 1 (has o.what)) (textB o.id) ++ (part (sub 2 (has o.what)) (numB o.token) ++ (part (sub 4 (has o.what)) o.value.bytes ++ (part (sub 8 (has o.what)) (bytesF o.frag) ++ part (sub 16 (has o.what)) (numB o.quota)))))

/-- What a right form is. -/
theorem right_cases {o : OD} (h : o.right = true) :
    (o.what = 1 ∧ rightF o.frag = true ∧ 0 ≤ o.quota ∧ o.quota ≤ 400 ∧ o.id = [] ∧ o.token = 0 ∧ o.value = zeroD) ∨
    ((o.what = 2 ∨ o.what = 5) ∧ idB o.id = true ∧ o.token = 0 ∧ o.value = zeroD ∧ o.frag = [] ∧ o.quota = 0) ∨
    (o.what = 3 ∧ idB o.id = true ∧ 1 ≤ o.token ∧ o.value.right = true ∧ rightF o.frag = true ∧ o.quota = 0) ∨
    (o.what = 4 ∧ idB o.id = true ∧ 1 ≤ o.token ∧ o.value = zeroD ∧ o.frag = [] ∧ o.quota = 0) := by
  unfold right form isZ at h
  split at h <;> rename_i hw <;> try simp only [Bool.and_eq_true, Bool.not_eq_true', Bool.not_eq_false', decide_eq_true_eq, decide_eq_false_iff_not, List.isEmpty_iff, VD.same_iff, Decidable.not_not, ne_eq] at h
  · obtain ⟨⟨⟨⟨h1, h2⟩, h3⟩, h4⟩, h5⟩ := h
    exact .inl ⟨hw, h1, h2.1, h2.2, h3, h4, h5⟩
  · obtain ⟨⟨⟨⟨h1, h2⟩, h3⟩, h4⟩, h5⟩ := h
    exact .inr (.inl ⟨.inl hw, h1, h2, h3, h4, h5⟩)
  · obtain ⟨⟨⟨⟨h1, h2⟩, h3⟩, h4⟩, h5⟩ := h
    exact .inr (.inr (.inl ⟨hw, h1, h2, h3, h4, h5⟩))
  · obtain ⟨⟨⟨⟨h1, h2⟩, h3⟩, h4⟩, h5⟩ := h
    exact .inr (.inr (.inr ⟨hw, h1, h2, h3, h4, h5⟩))
  · obtain ⟨⟨⟨⟨h1, h2⟩, h3⟩, h4⟩, h5⟩ := h
    exact .inr (.inl ⟨.inr hw, h1, h2, h3, h4, h5⟩)
  · cases h
theorem right_what {o : OD} (h : o.right = true) : 1 ≤ o.what ∧ o.what ≤ 5 := by
  rcases right_cases h with h | h | h | h
  · omega
  · rcases h.1 with h | h <;> omega
  · omega
  · omega

theorem bytes_1 {o : OD} (h : o.what = 1) : o.bytes = numB 1 ++ (bytesF o.frag ++ numB o.quota) := by
  unfold bytes; rw [h]; rfl
theorem bytes_2 {o : OD} (h : o.what = 2) : o.bytes = numB 2 ++ textB o.id := by
  unfold bytes; rw [h]; show numB 2 ++ (textB o.id ++ ([] ++ ([] ++ ([] ++ [])))) = _; simp
theorem bytes_3 {o : OD} (h : o.what = 3) : o.bytes = numB 3 ++ (textB o.id ++ (numB o.token ++ (o.value.bytes ++ bytesF o.frag))) := by
  unfold bytes; rw [h]; show numB 3 ++ (textB o.id ++ (numB o.token ++ (o.value.bytes ++ (bytesF o.frag ++ [])))) = _; simp
theorem bytes_4 {o : OD} (h : o.what = 4) : o.bytes = numB 4 ++ (textB o.id ++ numB o.token) := by
  unfold bytes; rw [h]; show numB 4 ++ (textB o.id ++ (numB o.token ++ ([] ++ ([] ++ [])))) = _; simp
theorem bytes_5 {o : OD} (h : o.what = 5) : o.bytes = numB 5 ++ textB o.id := by
  unfold bytes; rw [h]; show numB 5 ++ (textB o.id ++ ([] ++ ([] ++ ([] ++ [])))) = _; simp

theorem right_kinds {v : VD} (h : v.right = true) : v.kinds = true := by
  unfold VD.right at h
  simp only [Bool.and_eq_true] at h
  exact h.1.1
/-- No operation's bytes are the begin of another's. -/
theorem bytes_prefix {o p : OD} {r q : List UInt8} (ho : o.right = true) (hp : p.right = true) (h : o.bytes ++ r = p.bytes ++ q) : o = p ∧ r = q := by
  have hw : o.what = p.what := by
    unfold bytes at h
    simp only [List.append_assoc] at h
    have := (numB_prefix h).1
    omega
  rcases right_cases ho with ⟨w, a1, a2, a3, a4, a5, a6⟩ | ⟨w, a1, a2, a3, a4, a5⟩ | ⟨w, a1, a2, a3, a4, a5⟩ | ⟨w, a1, a2, a3, a4, a5⟩ <;> rcases right_cases hp with ⟨w', b1, b2, b3, b4, b5, b6⟩ | ⟨w', b1, b2, b3, b4, b5⟩ | ⟨w', b1, b2, b3, b4, b5⟩ | ⟨w', b1, b2, b3, b4, b5⟩ <;> try omega
  · rw [bytes_1 w, bytes_1 w', List.append_assoc, List.append_assoc, List.append_assoc, List.append_assoc] at h
    obtain ⟨e1, h⟩ := bytesF_prefix a1 b1 (numB_prefix h).2
    obtain ⟨e2, h⟩ := numB_prefix h
    exact ⟨ext hw (a4.trans b4.symm) (a5.trans b5.symm) (a6.trans b6.symm) e1 e2, h⟩
  · have h2 : textB o.id ++ r = textB p.id ++ q := by
      rcases w with w | w <;> rcases w' with w' | w' <;> try omega
      · rw [bytes_2 w, bytes_2 w', List.append_assoc, List.append_assoc] at h
        exact (numB_prefix h).2
      · rw [bytes_5 w, bytes_5 w', List.append_assoc, List.append_assoc] at h
        exact (numB_prefix h).2
    obtain ⟨e1, h⟩ := textB_prefix h2
    exact ⟨ext hw e1 (a2.trans b2.symm) (a3.trans b3.symm) (a4.trans b4.symm) (a5.trans b5.symm), h⟩
  · rw [bytes_3 w, bytes_3 w'] at h
    simp only [List.append_assoc] at h
    obtain ⟨e1, h⟩ := textB_prefix (numB_prefix h).2
    obtain ⟨e2, h⟩ := numB_prefix h
    obtain ⟨e3, h⟩ := VD.bytes_prefix _ _ _ _ (right_kinds a3) (right_kinds b3) h
    obtain ⟨e4, h⟩ := bytesF_prefix a4 b4 h
    exact ⟨ext hw e1 e2 e3 e4 (a5.trans b5.symm), h⟩
  · rw [bytes_4 w, bytes_4 w'] at h
    simp only [List.append_assoc] at h
    obtain ⟨e1, h⟩ := textB_prefix (numB_prefix h).2
    obtain ⟨e2, h⟩ := numB_prefix h
    exact ⟨ext hw e1 e2 (a3.trans b3.symm) (a4.trans b4.symm) (a5.trans b5.symm), h⟩
theorem bytes_inj {o p : OD} (ho : o.right = true) (hp : p.right = true) (h : o.bytes = p.bytes) : o = p := (bytes_prefix (r := []) (q := []) ho hp (by simpa using h)).1
theorem bytes_same {o p : OD} (ho : o.right = true) (hp : p.right = true) : decide (o.bytes = p.bytes) = o.same p := by
  rw [Bool.eq_iff_iff, decide_eq_true_eq, same_iff]
  exact ⟨bytes_inj ho hp, fun e => by rw [e]⟩
theorem bytes_pos (o : OD) : 0 < o.bytes.length := by
  unfold bytes
  rw [List.length_append]
  have := numB_pos ((o.what : Nat) : Int)
  omega
end OD
/-- Values that Same may be asked of. -/
def OD.Lt (o : OD) : Prop := o.value.parts ≤ 1000000 ∧ o.value.deep ≤ 1000
/-- Of a right form, and its numbers are of 64 bits. -/
structure OD.Good (o : OD) : Prop where
  rt : o.right = true
  tk : InR o.token
  vf : o.value.Fits
/-- The bytes of no operation. -/
def NoOp (b : List UInt8) : Prop := ∀ o : OD, o.Good → b ≠ o.bytes
theorem noOp_less {o : OD} {i : Nat} (h : o.right = true) (hi : i < o.bytes.length) : NoOp (o.bytes.take i) := fun p hp e => by
  have e2 : p.bytes ++ o.bytes.drop i = o.bytes ++ [] := by rw [← e, List.take_append_drop, List.append_nil]
  have := (OD.bytes_prefix hp.rt h e2).2
  have := congrArg List.length this
  simp at this
  omega
theorem noOp_more {o : OD} {r : List UInt8} (h : o.right = true) (hr : r ≠ []) : NoOp (o.bytes ++ r) := fun p hp e => by
  have e2 : o.bytes ++ r = p.bytes ++ [] := by rw [e, List.append_nil]
  exact hr (OD.bytes_prefix h hp.rt e2).2

/-- A step of a reader: what it took (x, of bs, behind bs'), and whether it is broken. -/
structure Took {α : Type} (P : α → Prop) (enc : α → List UInt8) (brk : Bool) (bs : List UInt8) (x : α) (brk' : Bool) (bs' : List UInt8) : Prop where
  sound : brk' = false → brk = false ∧ P x ∧ bs = enc x ++ bs'
  full : ∀ y r, brk = false → P y → bs = enc y ++ r → brk' = false ∧ x = y ∧ bs' = r
theorem Took.of {α : Type} {P : α → Prop} {enc : α → List UInt8} {bs : List UInt8} {x : α} {bs' : List UInt8} {brk : Bool} (hP : P x) (he : bs = enc x ++ bs') (inj : ∀ y r, P y → enc x ++ bs' = enc y ++ r → x = y ∧ bs' = r) : Took P enc brk bs x brk bs' :=
  ⟨fun h => ⟨h, hP, he⟩, fun y r h hy e => ⟨h, inj y r hy (he.symm.trans e)⟩⟩
theorem Took.no {α : Type} {P : α → Prop} {enc : α → List UInt8} {bs : List UInt8} {x : α} {bs' : List UInt8} {brk : Bool} (hN : ∀ y r, P y → bs ≠ enc y ++ r) : Took P enc brk bs x true bs' :=
  ⟨fun h => by (cases h), fun y r _ hy e => absurd e (hN y r hy)⟩
end Go.Proofs.YtdlbpbglidhlfaaGreatDoor

namespace Go.Proofs.YtdlbpbglidhlfaaGreatDoor
open Go.RowKit

/-- Fresh, and a row of its own. -/
def FreshO (w w' : World) (r : Value) (bs : List UInt8) : Prop := Fresh w w' r bs ∧ w'.ownsRow 0 5 1 r bs.length (bs.map bv)

/-- Where append of bytes onto the empty row, or onto such a row, leads. -/
theorem grown_below {w W W' : World} {v v' : Value} (hb : Below w.heap.size w W) (hv : ∀ k, v.ownBlock = some k → w.heap.size ≤ k) (hg : W.grownBy W' v.ownBlock) (hn : v'.ownBlock = v.ownBlock ∨ ∃ k, v'.ownBlock = some k ∧ W.heap.size ≤ k) : Below w.heap.size w W' ∧ ∀ k, v'.ownBlock = some k → w.heap.size ≤ k :=
  ⟨hb.grown hg hb.size hv, fun k hk => by
    rcases hn with e | ⟨k', e, hle⟩
    · rw [e] at hk; exact hv k hk
    · rw [e] at hk; cases hk; have := hb.size; omega⟩

theorem below_drewN (w : World) (n : Nat) : Below w.heap.size w (w.drewN n) := ⟨rfl, rfl, rfl, Nat.le_refl _, fun _ _ => rfl⟩
theorem own_none (w : World) : w.ownsRow 0 5 1 (.slice none 0 0) ([] : List UInt8).length (([] : List UInt8).map bv) := ⟨by simp, .inl ⟨rfl, rfl⟩⟩
/-- One byte in a block of its own. -/
theorem bytes_one (w : World) (y : UInt8) : Bytes (w.alloc (.cells #[.int .u8 (y.toNat : Nat)] 5)) (.slice (some ⟨w.heap.size, 0, none⟩) 1 1) [y] := by
  refine .inr ⟨⟨w.heap.size, 0, none⟩, 1, rfl, Nat.le_refl _, by unfold maxLen; omega, fun j x hx => ?_⟩
  rw [Addr.add_mid, Nat.zero_add, cell_of_row _ _ _ _ _ _ (heap_alloc_new w _)]
  have hx' : [bv y][j]? = some x := hx
  show [bv y].toArray[j]? = some x
  simpa using hx'

/-- A row under way: its bytes, in a block that is new since w. -/
structure Own (w : World) (r : Value) (bs : List UInt8) (W : World) : Prop where
  own : W.ownsRow 0 5 1 r bs.length (bs.map bv)
  new : ∀ k, r.ownBlock = some k → w.heap.size ≤ k
  bb : Below w.heap.size w W
theorem Own.fresh {w W : World} {r : Value} {bs : List UInt8} (h : Own w r bs W) : FreshO w W r bs := ⟨⟨bytes_of_owns h.own, fun k hk => ⟨h.new k hk, (h.own.lt k hk).2⟩, h.bb⟩, h.own⟩
theorem Own.later {w W W' : World} {r : Value} {bs : List UInt8} (h : Own w r bs W) (hb : Below W.heap.size W W') : Own w r bs W' := ⟨own_keeps h.own fun k hk => hb.block k (h.own.lt k hk).2, h.new, h.bb.trans (hb.mono h.bb.size)⟩
theorem Own.alloc {w W : World} {r : Value} {bs : List UInt8} (h : Own w r bs W) (o : Obj) : Own w r bs (W.alloc o) := h.later ((Below.refl _ W).alloc (Nat.le_refl _) _)
/-- Behind an append. -/
theorem Own.grown {w W W' : World} {r r' : Value} {bs cs : List UInt8} (h : Own w r bs W) (r1 : W'.ownsRow 0 5 1 r' cs.length (cs.map bv)) (r2 : W.grownBy W' r.ownBlock) (r3 : r'.ownBlock = r.ownBlock ∨ ∃ k, r'.ownBlock = some k ∧ W.heap.size ≤ k) : Own w r' cs W' := by
  obtain ⟨h1, h2⟩ := grown_below h.bb h.new r2 r3
  exact ⟨r1, h2, h1⟩
theorem Own.start (w : World) : Own w (.slice none 0 0) [] w := ⟨own_none w, fun k hk => (by cases hk), Below.refl _ w⟩
theorem FreshO.own {w W W' : World} {r : Value} {bs : List UInt8} (h : FreshO W W' r bs) (hb : Below w.heap.size w W) : Own w r bs W' := ⟨h.2, fun k hk => by have := (h.1.2.1 k hk).1; have := hb.size; omega, hb.trans (h.1.2.2.mono hb.size)⟩

theorem Own.lift {w W W' : World} {v : Value} {bs : List UInt8} (h : Own W v bs W') (hb : Below w.heap.size w W) : Own w v bs W' := ⟨h.own, fun k hk => by have := h.new k hk; have := hb.size; omega, hb.trans (h.bb.mono hb.size)⟩

end Go.Proofs.YtdlbpbglidhlfaaGreatDoor

namespace Go.Proofs.YtdlbpbglidhlfaaGreatDoor
open Go.RowKit

/-- append of bytes as one step of a region that draws its order. -/
theorem step_append_bytes {P : Program} {ops : Array Oper} {op : Oper} {a : Act} {w : World} {K : Act → World → Prop} {Q : Exit → Act → World → Prop} {E : Prop}
    (hg : op.guard = none) (s x : Operand) (t : TypeId) (hop : op.op = Op.call { callee := Callee.builtin Builtin.append, args := #[s, x], argTypes := #[t, t] })
    (e : TypeId) (i : TypeInfo) (z : Value) (ht : P.underlying t = some (.slice e)) (hi : P.info? e = some i) (hz : i.zero = some z) (hs : i.size = 1) (hb : i.bytes = 1) (hzs : z.cells.size = 1)
    (v : Value) (xs : List UInt8) (hsv : a.eval s = v) (hown : w.ownsRow 0 e 1 v xs.length (xs.map bv)) (u : Value) (bs : List UInt8) (hxu : a.eval x = u) (hu : Bytes w u bs) (hl : xs.length + bs.length ≤ 140737488355328)
    (hK : ∀ v' w', w'.ownsRow 0 e 1 v' (xs ++ bs).length ((xs ++ bs).map bv) → w.grownBy w' v.ownBlock → (v'.ownBlock = v.ownBlock ∨ ∃ k, v'.ownBlock = some k ∧ w.heap.size ≤ k) → K (a.put op.dst v') w') :
    if Region.wanted op (yielded ops a.tmps) = true then Oper.wp P op a w K Q else E := by
  have hw : Region.wanted op (yielded ops a.tmps) = true := by simp [Region.wanted, hg]
  rw [if_pos hw]
  obtain ⟨v', w', hrun, r1, r2, r3⟩ := run_append_bytes (P := P) w t op.type e i z ht hi hz hs hb hzs v xs hown u bs hu hl
  unfold Oper.wp
  simp [execOp, hop, resolve, invoke, builtin, hsv, hxu, hrun, Result.andThen]
  exact hK v' w' r1 r2 r3

/-- copy into the middle of a block, at the walk's list of operations. -/
theorem wpList_copy_mid {P : Program} {w : World} {ops : Array Oper} {rest : List Oper} {op : Oper} {a : Act} {Q : Exit → Act → World → Prop} (hgd : op.guard = none) (d s : Operand) (dT sT : TypeId)
    (ho : op.op = .call { callee := .builtin .copy, args := #[d, s], argTypes := #[dT, sT] }) (elem : TypeId) (hu : P.underlying dT = some (.slice elem)) (hsz : (P.info? elem).map (·.size) = some 1)
    (b o dLen dCap : Nat) (ad : Addr) (sLen sCap : Nat) (hd : a.eval d = .slice (some ⟨b, o, none⟩) dLen dCap) (hs : a.eval s = .slice (some ad) sLen sCap)
    (cs : List Value) (hn : cs.length = Nat.min sLen dLen) (hsrc : ∀ j u, cs[j]? = some u → w.cell? (ad.add j) = some u) (ht : w.there b o cs.length) (h1 : ∀ u ∈ cs, u.oneCell' = true)
    (h : wpList P ops Q rest (a.put op.dst (goInt cs.length)) (w.setCells b o cs)) : wpList P ops Q (op :: rest) a w := by
  refine wpList_plain hgd fun K hK => ?_
  have hrun := run_copy_cells (P := P) w dT sT op.type elem b o dLen dCap ad sLen sCap cs hu hsz hn hsrc (fun j hj => (ht j hj).1) (fun j hj => (ht j hj).2) h1
  unfold Oper.wp
  simp [execOp, ho, resolve, invoke, builtin, hd, hs, hrun, Result.andThen]
  exact hK _ _ h

theorem infoByteSize : (Tryz.prog.info? 5).map (·.size) = some 1 := by kernel_rfl

end Go.Proofs.YtdlbpbglidhlfaaGreatDoor

namespace Go.Proofs.YtdlbpbglidhlfaaGreatDoor
open Go.RowKit

mutual
/-- The struct u reads as the value; the blocks of its lists are of B. -/
def VD.At (B : Nat → Prop) (W : World) : VD → Value → Prop
  | .mk k n s l, u => ∃ a c, u = .agg #[.int .u8 ((k : Nat) : Int), .int .i64 n, .string ⟨s.toArray⟩, .slice a l.length c] ∧ k < 256 ∧ InR n ∧ s.length ≤ maxLen ∧ l.length ≤ c ∧ c ≤ maxLen ∧ VD.AtL B W l a 0
def VD.AtL (B : Nat → Prop) (W : World) : List VD → Option Addr → Nat → Prop
  | [], _, _ => True
  | x :: r, a, i => (∃ b o e0 e1 e2 e3, a = some ⟨b, o, none⟩ ∧ B b ∧ W.cell? ⟨b, o + i * 4, none⟩ = some e0 ∧ W.cell? ⟨b, o + i * 4 + 1, none⟩ = some e1 ∧ W.cell? ⟨b, o + i * 4 + 2, none⟩ = some e2 ∧ W.cell? ⟨b, o + i * 4 + 3, none⟩ = some e3 ∧ x.At B W (.agg #[e0, e1, e2, e3])) ∧ VD.AtL B W r a (i + 1)
end

/-- One value of a row, in memory. -/
def VD.Elem (B : Nat → Prop) (W : World) (x : VD) (a : Option Addr) (i : Nat) : Prop :=
  ∃ b o e0 e1 e2 e3, a = some ⟨b, o, none⟩ ∧ B b ∧ W.cell? ⟨b, o + i * 4, none⟩ = some e0 ∧ W.cell? ⟨b, o + i * 4 + 1, none⟩ = some e1 ∧ W.cell? ⟨b, o + i * 4 + 2, none⟩ = some e2 ∧ W.cell? ⟨b, o + i * 4 + 3, none⟩ = some e3 ∧ x.At B W (.agg #[e0, e1, e2, e3])

theorem VD.atL_iff {B : Nat → Prop} {W : World} {a : Option Addr} : ∀ (l : List VD) (i : Nat), VD.AtL B W l a i ↔ ∀ j (h : j < l.length), VD.Elem B W (l[j]'h) a (i + j)
  | [], i => by simp [VD.AtL]
  | x :: r, i => by
    rw [VD.AtL, VD.atL_iff r (i + 1)]
    constructor
    · rintro ⟨h1, h2⟩ j hj
      cases j with
      | zero => exact h1
      | succ j =>
        have := h2 j (by simpa using hj)
        rw [show i + (j + 1) = i + 1 + j by omega]
        exact this
    · intro h
      refine ⟨h 0 (by simp), fun j hj => ?_⟩
      have := h (j + 1) (by simpa using hj)
      rw [show i + 1 + j = i + (j + 1) by omega]
      exact this

theorem VD.at_iff {B : Nat → Prop} {W : World} {v : VD} {u : Value} : v.At B W u ↔ ∃ a c, u = .agg #[.int .u8 ((v.k : Nat) : Int), .int .i64 v.n, .string ⟨v.s.toArray⟩, .slice a v.l.length c] ∧ v.k < 256 ∧ InR v.n ∧ v.s.length ≤ maxLen ∧ v.l.length ≤ c ∧ c ≤ maxLen ∧ ∀ j (h : j < v.l.length), VD.Elem B W (v.l[j]'h) a j := by
  obtain ⟨k, n, s, l⟩ := v
  simp only [VD.At, VD.k, VD.n, VD.s, VD.l]
  have := @VD.atL_iff B W
  constructor
  · rintro ⟨a, c, h1, h2, h3, h4, h5, h6, h7⟩
    refine ⟨a, c, h1, h2, h3, h4, h5, h6, fun j hj => ?_⟩
    have := (VD.atL_iff l 0).1 h7 j hj
    rwa [Nat.zero_add] at this
  · rintro ⟨a, c, h1, h2, h3, h4, h5, h6, h7⟩
    refine ⟨a, c, h1, h2, h3, h4, h5, h6, (VD.atL_iff l 0).2 fun j hj => ?_⟩
    rw [Nat.zero_add]
    exact h7 j hj

/-- Behind whatever leaves the blocks of its lists alone. -/
theorem VD.At.kept {B B' : Nat → Prop} {W W' : World} (hk : ∀ k, B k → k < W.heap.size → W'.heap[k]? = W.heap[k]?) (hB : ∀ k, B k → k < W.heap.size → B' k) : ∀ {v : VD} {u : Value}, v.At B W u → v.At B' W' u := by
  intro v
  induction v using VD.induct with
  | h v ih =>
    intro u h
    rw [VD.at_iff] at h ⊢
    obtain ⟨a, c, h1, h2, h3, h4, h5, h6, h7⟩ := h
    refine ⟨a, c, h1, h2, h3, h4, h5, h6, fun j hj => ?_⟩
    obtain ⟨b, o, e0, e1, e2, e3, ha, hb, c0, c1, c2, c3, he⟩ := h7 j hj
    have hlt : b < W.heap.size := World.block_lt_of_cell? W _ c0
    have hcell : ∀ p, W'.cell? ⟨b, p, none⟩ = W.cell? ⟨b, p, none⟩ := fun p => World.cell?_of_block (a := ⟨b, p, none⟩) (hk b hb hlt)
    exact ⟨b, o, e0, e1, e2, e3, ha, hB b hb hlt, (hcell _).trans c0, (hcell _).trans c1, (hcell _).trans c2, (hcell _).trans c3, ih _ (List.getElem_mem hj) he⟩
theorem VD.At.later {B : Nat → Prop} {W W' : World} {v : VD} {u : Value} (h : v.At B W u) (hb : Below W.heap.size W W') : v.At B W' u := h.kept (fun k _ hk => hb.block k hk) (fun _ hB _ => hB)
theorem VD.At.wider {B B' : Nat → Prop} {W : World} {v : VD} {u : Value} (h : v.At B W u) (hB : ∀ k, B k → B' k) : v.At B' W u := h.kept (fun _ _ _ => rfl) (fun k hk _ => hB k hk)
theorem VD.At.fits {B : Nat → Prop} {W : World} : ∀ {v : VD} {u : Value}, v.At B W u → v.Fits := by
  intro v
  induction v using VD.induct with
  | h v ih =>
    intro u h
    rw [VD.at_iff] at h
    obtain ⟨a, c, _, _, h3, _, _, _, h7⟩ := h
    obtain ⟨k, n, s, l⟩ := v
    refine .mk k n s l h3 fun x hx => ?_
    obtain ⟨j, hj, rfl⟩ := List.getElem_of_mem hx
    obtain ⟨b, o, e0, e1, e2, e3, ha, hb, c0, c1, c2, c3, he⟩ := h7 j hj
    exact ih _ hx he

/-- A value's struct, in a block of its own. -/
structure VBox (B : Nat → Prop) (W : World) (g : Nat) (v : VD) (a : Option Addr) (c : Nat) : Prop where
  c0 : W.cell? ⟨g, 0, none⟩ = some (.int .u8 ((v.k : Nat) : Int))
  c1 : W.cell? ⟨g, 1, none⟩ = some (.int .i64 v.n)
  c2 : W.cell? ⟨g, 2, none⟩ = some (.string ⟨v.s.toArray⟩)
  c3 : W.cell? ⟨g, 3, none⟩ = some (.slice a v.l.length c)
  kb : v.k < 256
  nb : InR v.n
  sb : v.s.length ≤ maxLen
  lc : v.l.length ≤ c
  cm : c ≤ maxLen
  el : ∀ j (h : j < v.l.length), VD.Elem B W (v.l[j]'h) a j
theorem VBox.later {B : Nat → Prop} {W W' : World} {g : Nat} {v : VD} {a : Option Addr} {c : Nat} (h : VBox B W g v a c) (hb : Below W.heap.size W W') : VBox B W' g v a c := by
  have hc : ∀ {p : Addr} {x : Value}, W.cell? p = some x → W'.cell? p = some x := fun hx => (hb.cell (World.block_lt_of_cell? _ _ hx)).trans hx
  refine ⟨hc h.c0, hc h.c1, hc h.c2, hc h.c3, h.kb, h.nb, h.sb, h.lc, h.cm, fun j hj => ?_⟩
  obtain ⟨b, o, e0, e1, e2, e3, ha, hB, c0, c1, c2, c3, he⟩ := h.el j hj
  exact ⟨b, o, e0, e1, e2, e3, ha, hB, hc c0, hc c1, hc c2, hc c3, he.later hb⟩
/-- What 'Op.box' of a value makes. -/
theorem VD.At.box {B : Nat → Prop} {W : World} {v : VD} {u : Value} (h : v.At B W u) : ∃ a c, u = .agg #[.int .u8 ((v.k : Nat) : Int), .int .i64 v.n, .string ⟨v.s.toArray⟩, .slice a v.l.length c] ∧ v.l.length ≤ c ∧ ∀ t, VBox B (W.alloc (.cells #[.int .u8 ((v.k : Nat) : Int), .int .i64 v.n, .string ⟨v.s.toArray⟩, .slice a v.l.length c] t)) W.heap.size v a c := by
  have h0 := h
  rw [VD.at_iff] at h
  obtain ⟨a, c, rfl, h2, h3, h4, h5, h6, h7⟩ := h
  refine ⟨a, c, rfl, h5, fun t => ?_⟩
  have hb : Below W.heap.size W (W.alloc (.cells #[.int .u8 ((v.k : Nat) : Int), .int .i64 v.n, .string ⟨v.s.toArray⟩, .slice a v.l.length c] t)) := (Below.refl _ W).alloc (Nat.le_refl _) _
  have hB := heap_alloc_new W (.cells #[.int .u8 ((v.k : Nat) : Int), .int .i64 v.n, .string ⟨v.s.toArray⟩, .slice a v.l.length c] t)
  have hc : ∀ {p : Addr} {x : Value}, W.cell? p = some x → (W.alloc (.cells #[.int .u8 ((v.k : Nat) : Int), .int .i64 v.n, .string ⟨v.s.toArray⟩, .slice a v.l.length c] t)).cell? p = some x := fun hx => (hb.cell (World.block_lt_of_cell? _ _ hx)).trans hx
  refine ⟨cell_of_row _ _ 0 _ _ _ hB, cell_of_row _ _ 1 _ _ _ hB, cell_of_row _ _ 2 _ _ _ hB, cell_of_row _ _ 3 _ _ _ hB, h2, h3, h4, h5, h6, fun j hj => ?_⟩
  obtain ⟨b, o, e0, e1, e2, e3, ha, hB, c0, c1, c2, c3, he⟩ := h7 j hj
  exact ⟨b, o, e0, e1, e2, e3, ha, hB, hc c0, hc c1, hc c2, hc c3, he.later hb⟩
end Go.Proofs.YtdlbpbglidhlfaaGreatDoor
