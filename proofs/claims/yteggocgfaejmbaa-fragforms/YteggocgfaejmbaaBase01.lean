/- FragMath, GenOwn, GenStep, FragMem: our own definitions and contracts; no statement of the seat is proved here. -/
import Derived.Test.YteggocgfaejmbaaBase00
namespace Go.Proofs.Yteggocgfaejmbaa

/-- May a name have that byte? -/
def chB (c : UInt8) : Bool := (decide (97 ≤ c.toNat) && decide (c.toNat ≤ 122)) || (decide (48 ≤ c.toNat) && decide (c.toNat ≤ 57)) || decide (c.toNat = 95)
/-- Is it a name? -/
def nameB (s : List UInt8) : Bool := decide (1 ≤ s.length) && decide (s.length ≤ 20) && s.all chB
theorem nameB_len {s : List UInt8} (h : nameB s = true) : s.length ≤ 20 := by
  unfold nameB at h
  simp only [Bool.and_eq_true, decide_eq_true_eq] at h
  exact h.1.2

/-- An item. -/
structure FI where
  name : List UInt8
  k : Nat
  after : List (List UInt8)
  over : List UInt8
  width : Int
  quota : Int
namespace FI
/-- What is over and how wide, as its kind has it. -/
def kindOk (p : List UInt8 → Bool) (x : FI) : Bool := (decide (x.k = 0) && x.over.isEmpty && decide (x.width = 0)) || (decide (x.k = 1) && p x.over && decide (0 ≤ x.width) && decide (x.width ≤ 40))
/-- Of a right form, where p asks of texts. -/
def okP (p : List UInt8 → Bool) (x : FI) : Bool := p x.name && decide (x.after.length ≤ 20) && x.after.all p && (decide (0 ≤ x.quota) && decide (x.quota ≤ 400)) && x.kindOk p
def right (x : FI) : Bool := x.okP nameB
def same (x y : FI) : Bool := decide (x.name = y.name) && decide (x.k = y.k) && decide (x.after = y.after) && decide (x.over = y.over) && decide (x.width = y.width) && decide (x.quota = y.quota)
def tail (x : FI) : List UInt8 := if x.k = 1 then textB x.over ++ numB x.width else []
def bytes (x : FI) : List UInt8 := textB x.name ++ (numB ((x.k : Nat) : Int) ++ (numB ((x.after.length : Nat) : Int) ++ (x.after.flatMap textB ++ (numB x.quota ++ x.tail))))
theorem same_iff (x y : FI) : x.same y = true ↔ x = y := by
  obtain ⟨a, b, c, d, e, f⟩ := x
  obtain ⟨a', b', c', d', e', f'⟩ := y
  unfold same
  simp only [Bool.and_eq_true, decide_eq_true_eq, FI.mk.injEq]
  constructor
  · rintro ⟨⟨⟨⟨⟨h1, h2⟩, h3⟩, h4⟩, h5⟩, h6⟩; exact ⟨h1, h2, h3, h4, h5, h6⟩
  · rintro ⟨h1, h2, h3, h4, h5, h6⟩; exact ⟨⟨⟨⟨⟨h1, h2⟩, h3⟩, h4⟩, h5⟩, h6⟩
end FI
/-- A fragment of a right form. -/
def rightF (l : List FI) : Bool := decide (l.length ≤ 40) && l.all FI.right
def bytesF (l : List FI) : List UInt8 := numB ((l.length : Nat) : Int) ++ l.flatMap FI.bytes
def sameF : List FI → List FI → Bool
  | [], [] => true
  | x :: l, y :: m => x.same y && sameF l m
  | _, _ => false
theorem sameF_iff : ∀ (l m : List FI), sameF l m = true ↔ l = m
  | [], [] => by simp [sameF]
  | [], y :: m => by simp [sameF]
  | x :: l, [] => by simp [sameF]
  | x :: l, y :: m => by
    simp only [sameF, Bool.and_eq_true, List.cons.injEq]
    rw [FI.same_iff, sameF_iff l m]
theorem sameF_self (l : List FI) : sameF l l = true := (sameF_iff l l).2 rfl
theorem sameF_false {l m : List FI} (h : l ≠ m) : sameF l m = false := by
  rw [Bool.eq_false_iff]
  intro e
  exact h ((sameF_iff l m).1 e)

/-- What reads parts off bytes: of none nothing is read; what is read is right, and was there; what is right, and there, is read. -/
structure Codec {α : Type} (f : Option (List UInt8) → α × Option (List UInt8)) (P : α → Prop) (enc : α → List UInt8) : Prop where
  stop : (f none).2 = none
  sound : ∀ bs x r, f (some bs) = (x, some r) → P x ∧ bs = enc x ++ r
  full : ∀ x r, P x → f (some (enc x ++ r)) = (x, some r)
theorem Codec.inj {α : Type} {f : Option (List UInt8) → α × Option (List UInt8)} {P : α → Prop} {enc : α → List UInt8} (h : Codec f P enc) {x y : α} {r q : List UInt8} (hx : P x) (hy : P y) (he : enc x ++ r = enc y ++ q) : x = y ∧ r = q := by
  have h1 := h.full x r hx
  rw [he, h.full y q hy] at h1
  simp only [Prod.mk.injEq, Option.some.injEq] at h1
  exact ⟨h1.1.symm, h1.2.symm⟩
theorem Codec.no {α : Type} {f : Option (List UInt8) → α × Option (List UInt8)} {P : α → Prop} {enc : α → List UInt8} (h : Codec f P enc) {bs : List UInt8} (hn : (f (some bs)).2 = none) {x : α} {r : List UInt8} (hx : P x) : bs ≠ enc x ++ r := fun e => by
  rw [e, h.full x r hx] at hn
  cases hn
/-- What is left is an end of what was there. -/
theorem Codec.len {α : Type} {f : Option (List UInt8) → α × Option (List UInt8)} {P : α → Prop} {enc : α → List UInt8} (h : Codec f P enc) {bs : List UInt8} {x : α} {r : List UInt8} (e : f (some bs) = (x, some r)) : r = bs.drop (enc x).length ∧ bs.length = (enc x).length + r.length := by
  obtain ⟨_, e1⟩ := h.sound bs x r e
  rw [e1]
  simp

open Classical in
/-- A number from 0 to most. -/
noncomputable def numO (most : Nat) (bs : List UInt8) : Nat × Option (List UInt8) := if h : ∃ n : Nat, ∃ k, Reads bs ((n : Nat) : Int) k ∧ n ≤ most then (h.choose, some (bs.drop h.choose_spec.choose)) else (0, none)
noncomputable def numS (most : Nat) : Option (List UInt8) → Nat × Option (List UInt8)
  | none => (0, none)
  | some bs => numO most bs
theorem numS_ok {most : Nat} {bs : List UInt8} {n k : Nat} (h : Reads bs ((n : Nat) : Int) k) (hn : n ≤ most) : numS most (some bs) = (n, some (bs.drop k)) := by
  have hx : ∃ n : Nat, ∃ k, Reads bs ((n : Nat) : Int) k ∧ n ≤ most := ⟨n, k, h, hn⟩
  show numO most bs = _
  unfold numO
  rw [dif_pos hx]
  obtain ⟨e1, e2⟩ := h.same hx.choose_spec.choose_spec.1
  have e1' : hx.choose = n := by omega
  rw [← e2, e1']
theorem numS_no {most : Nat} {bs : List UInt8} (h : ∀ (n k : Nat), Reads bs ((n : Nat) : Int) k → most < n) : numS most (some bs) = (0, none) := by
  show numO most bs = _
  unfold numO
  rw [dif_neg]
  rintro ⟨n, k, h1, h2⟩
  have := h n k h1
  omega
theorem numS_none (most : Nat) : numS most none = (0, none) := rfl
theorem numS_codec {most : Nat} (hm : most ≤ 1000000) : Codec (numS most) (fun n => n ≤ most) (fun n => numB ((n : Nat) : Int)) := by
  refine ⟨rfl, fun bs x r h => ?_, fun x r hx => ?_⟩
  · replace h : numO most bs = _ := h
    unfold numO at h
    split at h
    · rename_i hx
      obtain ⟨h1, h2⟩ := hx.choose_spec.choose_spec
      simp only [Prod.mk.injEq, Option.some.injEq] at h
      obtain ⟨rfl, rfl⟩ := h
      exact ⟨h2, h1.eq⟩
    · simp only [Prod.mk.injEq] at h
      cases h.2
  · have hr := Reads.of (b := numB ((x : Nat) : Int) ++ r) (r := r) (n := ((x : Nat) : Int)) (by unfold InR; omega) rfl
    rw [numS_ok hr hx, List.drop_left' rfl]
open Classical in
/-- A text of at most 20 bytes of which p is told. -/
noncomputable def textO (p : List UInt8 → Bool) (bs : List UInt8) : List UInt8 × Option (List UInt8) := if h : ∃ s k, ReadsT bs 20 s k ∧ p s = true then (h.choose, some (bs.drop (h.choose_spec.choose + h.choose.length))) else ([], none)
noncomputable def textS (p : List UInt8 → Bool) : Option (List UInt8) → List UInt8 × Option (List UInt8)
  | none => ([], none)
  | some bs => textO p bs
theorem textS_ok {p : List UInt8 → Bool} {bs s : List UInt8} {k : Nat} (h : ReadsT bs 20 s k) (hp : p s = true) : textS p (some bs) = (s, some (bs.drop (k + s.length))) := by
  have hx : ∃ s k, ReadsT bs 20 s k ∧ p s = true := ⟨s, k, h, hp⟩
  show textO p bs = _
  unfold textO
  rw [dif_pos hx]
  obtain ⟨e1, e2⟩ := h.same hx.choose_spec.choose_spec.1
  rw [← e2, ← e1]
theorem textS_no {p : List UInt8 → Bool} {bs : List UInt8} (h : ∀ s k, ReadsT bs 20 s k → p s = false) : textS p (some bs) = ([], none) := by
  show textO p bs = _
  unfold textO
  rw [dif_neg]
  rintro ⟨s, k, h1, h2⟩
  rw [h s k h1] at h2
  cases h2
theorem textS_none (p : List UInt8 → Bool) : textS p none = ([], none) := rfl
def txP (p : List UInt8 → Bool) (s : List UInt8) : Bool := decide (s.length ≤ 20) && p s
theorem txP_name : txP nameB = nameB := by
  funext s
  unfold txP
  rcases h : nameB s with _ | _
  · simp
  · rw [decide_eq_true (nameB_len h)]; rfl
theorem textS_codec (p : List UInt8 → Bool) : Codec (textS p) (fun s => txP p s = true) textB := by
  refine ⟨rfl, fun bs x r h => ?_, fun x r hx => ?_⟩
  · replace h : textO p bs = _ := h
    unfold textO at h
    split at h
    · rename_i hx
      obtain ⟨h1, h2⟩ := hx.choose_spec.choose_spec
      simp only [Prod.mk.injEq, Option.some.injEq] at h
      obtain ⟨rfl, rfl⟩ := h
      have h3 := h1.most
      refine ⟨?_, h1.whole⟩
      unfold txP
      rw [h2, decide_eq_true (by omega)]
      rfl
    · simp only [Prod.mk.injEq] at h
      cases h.2
  · unfold txP at hx
    simp only [Bool.and_eq_true, decide_eq_true_eq] at hx
    have hr := ReadsT.of (b := textB x ++ r) (r := r) (s := x) (most := 20) (by unfold InR; omega) (by omega) rfl
    rw [textS_ok hr hx.2]
    have : (numB ((x.length : Nat) : Int)).length + x.length = (textB x).length := by unfold textB; rw [List.length_append]
    rw [this, List.drop_left' rfl]

/-- So many, one behind the other. -/
def listS {α : Type} (f : Option (List UInt8) → α × Option (List UInt8)) : Nat → Option (List UInt8) → List α × Option (List UInt8)
  | 0, st => ([], st)
  | n + 1, st => ((listS f n st).1 ++ [(f (listS f n st).2).1], (f (listS f n st).2).2)
theorem listS_len {α : Type} (f : Option (List UInt8) → α × Option (List UInt8)) : ∀ n st, (listS f n st).1.length = n
  | 0, st => rfl
  | n + 1, st => by simp only [listS, List.length_append, List.length_singleton]; rw [listS_len f n st]
theorem Codec.listNone {α : Type} {f : Option (List UInt8) → α × Option (List UInt8)} {P : α → Prop} {enc : α → List UInt8} (h : Codec f P enc) : ∀ n, (listS f n none).2 = none
  | 0 => rfl
  | n + 1 => by simp only [listS]; rw [h.listNone n, h.stop]
theorem Codec.listSound {α : Type} {f : Option (List UInt8) → α × Option (List UInt8)} {P : α → Prop} {enc : α → List UInt8} (h : Codec f P enc) : ∀ n bs l r, listS f n (some bs) = (l, some r) → l.length = n ∧ (∀ x ∈ l, P x) ∧ bs = l.flatMap enc ++ r
  | 0, bs, l, r, e => by
    simp only [listS, Prod.mk.injEq, Option.some.injEq] at e
    obtain ⟨rfl, rfl⟩ := e
    exact ⟨rfl, fun x hx => (by cases hx), by simp⟩
  | n + 1, bs, l, r, e => by
    simp only [listS, Prod.mk.injEq] at e
    obtain ⟨e1, e2⟩ := e
    cases hs : (listS f n (some bs)).2 with
    | none => rw [hs, h.stop] at e2; cases e2
    | some q =>
      obtain ⟨h1, h2, h3⟩ := h.listSound n bs (listS f n (some bs)).1 q (by rw [← hs])
      rw [hs] at e1 e2
      obtain ⟨h4, h5⟩ := h.sound q (f (some q)).1 r (by rw [← e2])
      refine ⟨by rw [← e1, List.length_append, h1]; rfl, fun x hx => ?_, ?_⟩
      · rw [← e1] at hx
        rcases List.mem_append.1 hx with hx | hx
        · exact h2 x hx
        · rw [List.mem_singleton.1 hx]; exact h4
      · conv => { lhs; rw [h3, h5] }
        rw [← e1]
        simp [List.append_assoc]
theorem Codec.listFull {α : Type} {f : Option (List UInt8) → α × Option (List UInt8)} {P : α → Prop} {enc : α → List UInt8} (h : Codec f P enc) : ∀ n (l : List α) r, l.length = n → (∀ x ∈ l, P x) → listS f n (some (l.flatMap enc ++ r)) = (l, some r)
  | 0, l, r, hl, hP => by
    obtain rfl := List.eq_nil_of_length_eq_zero hl
    simp [listS]
  | n + 1, l, r, hl, hP => by
    have hne : l ≠ [] := by intro e; rw [e] at hl; simp at hl
    obtain ⟨q, x, rfl⟩ : ∃ q x, l = q ++ [x] := ⟨l.dropLast, l.getLast hne, (List.dropLast_concat_getLast hne).symm⟩
    have hq : q.length = n := by simpa using hl
    have h1 := h.listFull n q (enc x ++ r) hq (fun y hy => hP y (by simp [hy]))
    have h2 := h.full x r (hP x (by simp))
    have e : (q ++ [x]).flatMap enc ++ r = q.flatMap enc ++ (enc x ++ r) := by simp [List.append_assoc]
    rw [e]
    simp only [listS, h1, h2]

/-- An item. -/
noncomputable def itemS (p : List UInt8 → Bool) (st : Option (List UInt8)) : FI × Option (List UInt8) :=
  let a := textS p st
  let b := numS 1 a.2
  let c := numS 20 b.2
  let d := listS (textS p) c.1 c.2
  let e := numS 400 d.2
  if b.1 = 1 then
    let f := textS p e.2
    let g := numS 40 f.2
    (⟨a.1, b.1, d.1, f.1, ((g.1 : Nat) : Int), ((e.1 : Nat) : Int)⟩, g.2)
  else (⟨a.1, b.1, d.1, [], 0, ((e.1 : Nat) : Int)⟩, e.2)
theorem itemS_codec (p : List UInt8 → Bool) : Codec (itemS p) (fun x => x.okP (txP p) = true) FI.bytes := by
  have cT := textS_codec p
  have c1 := numS_codec (most := 1) (by omega)
  have c20 := numS_codec (most := 20) (by omega)
  have c400 := numS_codec (most := 400) (by omega)
  have c40 := numS_codec (most := 40) (by omega)
  refine ⟨?_, fun bs x r h => ?_, fun x r hx => ?_⟩
  · unfold itemS
    simp only [textS_none, numS_none]
    simp [listS, numS_none]
  · unfold itemS at h
    dsimp only at h
    cases ha : textS p (some bs) with
    | mk av as1 =>
    rw [ha] at h
    cases as1 with
    | none =>
      exfalso
      simp only [numS_none] at h
      simp [listS, numS_none] at h
    | some as1 =>
    obtain ⟨pa, ea⟩ := cT.sound _ _ _ ha
    cases hb : numS 1 (some as1) with
    | mk bv bs' =>
    rw [hb] at h
    cases bs' with
    | none =>
      exfalso
      simp only [numS_none, listS] at h
      split at h <;> simp [textS_none, numS_none] at h
    | some bs' =>
    obtain ⟨pb, eb⟩ := c1.sound _ _ _ hb
    cases hc : numS 20 (some bs') with
    | mk cv cs =>
    rw [hc] at h
    cases cs with
    | none =>
      exfalso
      have hd := cT.listNone cv
      dsimp only at h
      rw [hd] at h
      split at h <;> simp [textS_none, numS_none] at h
    | some cs =>
    obtain ⟨pc, ec⟩ := c20.sound _ _ _ hc
    dsimp only at h
    cases hd : listS (textS p) cv (some cs) with
    | mk dv ds =>
    rw [hd] at h
    cases ds with
    | none =>
      exfalso
      split at h <;> simp [textS_none, numS_none] at h
    | some ds =>
    obtain ⟨ld, pd, ed⟩ := cT.listSound _ _ _ _ hd
    dsimp only at h
    cases he : numS 400 (some ds) with
    | mk ev es =>
    rw [he] at h
    cases es with
    | none =>
      exfalso
      split at h <;> simp [textS_none, numS_none] at h
    | some es =>
    obtain ⟨pe, ee⟩ := c400.sound _ _ _ he
    dsimp only at h
    by_cases hk : bv = 1
    · rw [if_pos hk] at h
      cases hf : textS p (some es) with
      | mk fv fs =>
      rw [hf] at h
      cases fs with
      | none => exfalso; simp [numS_none] at h
      | some fs =>
      obtain ⟨pf, ef⟩ := cT.sound _ _ _ hf
      dsimp only at h
      cases hg : numS 40 (some fs) with
      | mk gv gs =>
      rw [hg] at h
      simp only [Prod.mk.injEq] at h
      obtain ⟨rfl, rfl⟩ := h
      obtain ⟨pg, eg⟩ := c40.sound _ _ _ hg
      refine ⟨?_, ?_⟩
      · unfold FI.okP FI.kindOk
        dsimp only
        rw [pa, pf, decide_eq_true (show dv.length ≤ 20 by omega), List.all_eq_true.2 pd, decide_eq_true (show (0 : Int) ≤ ((ev : Nat) : Int) by omega), decide_eq_true (show ((ev : Nat) : Int) ≤ 400 by omega), decide_eq_true hk, decide_eq_true (show (0 : Int) ≤ ((gv : Nat) : Int) by omega), decide_eq_true (show ((gv : Nat) : Int) ≤ 40 by omega)]
        simp
      · unfold FI.bytes FI.tail
        dsimp only
        rw [if_pos hk, ea, eb, ec, ed, ee, ef, eg, ld]
        simp only [List.append_assoc]
    · rw [if_neg hk] at h
      simp only [Prod.mk.injEq, Option.some.injEq] at h
      obtain ⟨rfl, rfl⟩ := h
      have hb0 : bv = 0 := by omega
      refine ⟨?_, ?_⟩
      · unfold FI.okP FI.kindOk
        dsimp only
        rw [pa, decide_eq_true (show dv.length ≤ 20 by omega), List.all_eq_true.2 pd, decide_eq_true (show (0 : Int) ≤ ((ev : Nat) : Int) by omega), decide_eq_true (show ((ev : Nat) : Int) ≤ 400 by omega), decide_eq_true hb0]
        simp
      · unfold FI.bytes FI.tail
        dsimp only
        rw [if_neg hk, ea, eb, ec, ed, ee, ld]
        simp only [List.append_assoc, List.nil_append]
  · obtain ⟨nm, k, af, ov, wd, qt⟩ := x
    unfold FI.okP at hx
    simp only [Bool.and_eq_true, decide_eq_true_eq] at hx
    obtain ⟨⟨⟨⟨hn, hal⟩, haa⟩, hq0, hq⟩, hko⟩ := hx
    have hap := List.all_eq_true.1 haa
    obtain ⟨Q, hQ⟩ : ∃ Q : Nat, qt = ((Q : Nat) : Int) := ⟨qt.toNat, by omega⟩
    subst hQ
    unfold FI.kindOk at hko
    simp only [Bool.or_eq_true, Bool.and_eq_true, decide_eq_true_eq, List.isEmpty_iff] at hko
    have hk1 : k ≤ 1 := by rcases hko with ⟨⟨h, _⟩, _⟩ | ⟨⟨⟨h, _⟩, _⟩, _⟩ <;> omega
    unfold itemS FI.bytes
    simp only [List.append_assoc]
    rw [cT.full nm _ hn]
    dsimp only
    rw [c1.full k _ hk1]
    dsimp only
    rw [c20.full af.length _ hal]
    dsimp only
    rw [cT.listFull af.length af _ rfl hap]
    dsimp only
    rw [c400.full Q _ (by omega)]
    dsimp only
    rcases hko with ⟨⟨hk, ho⟩, hw⟩ | ⟨⟨⟨hk, ho⟩, hw0⟩, hw⟩
    · subst hk ho hw
      unfold FI.tail
      simp
    · subst hk
      obtain ⟨G, hG⟩ : ∃ G : Nat, wd = ((G : Nat) : Int) := ⟨wd.toNat, by omega⟩
      subst hG
      rw [if_pos rfl]
      unfold FI.tail
      rw [if_pos rfl]
      dsimp only
      simp only [List.append_assoc]
      rw [cT.full ov _ ho]
      dsimp only
      rw [c40.full G _ (by omega)]
/-- A fragment. -/
noncomputable def fragS (p : List UInt8 → Bool) (st : Option (List UInt8)) : List FI × Option (List UInt8) :=
  let c := numS 40 st
  listS (itemS p) c.1 c.2
theorem fragS_codec (p : List UInt8 → Bool) : Codec (fragS p) (fun l => l.length ≤ 40 ∧ ∀ x ∈ l, x.okP (txP p) = true) bytesF := by
  have cI := itemS_codec p
  have c40 := numS_codec (most := 40) (by omega)
  refine ⟨?_, fun bs x r h => ?_, fun x r hx => ?_⟩
  · unfold fragS
    simp only [numS_none]
    rfl
  · unfold fragS at h
    dsimp only at h
    cases hc : numS 40 (some bs) with
    | mk cv cs =>
    rw [hc] at h
    cases cs with
    | none =>
      exfalso
      dsimp only at h
      have := cI.listNone cv
      rw [h] at this
      cases this
    | some cs =>
    obtain ⟨pc, ec⟩ := c40.sound _ _ _ hc
    obtain ⟨ll, pl, el⟩ := cI.listSound _ _ _ _ h
    refine ⟨⟨by omega, pl⟩, ?_⟩
    unfold bytesF
    rw [ll, ec, el]
    simp only [List.append_assoc]
  · obtain ⟨h1, h2⟩ := hx
    unfold fragS bytesF
    simp only [List.append_assoc]
    rw [c40.full x.length _ h1]
    dsimp only
    exact cI.listFull x.length x r rfl h2
theorem rightF_iff (l : List FI) : rightF l = true ↔ l.length ≤ 40 ∧ ∀ x ∈ l, x.okP (txP nameB) = true := by
  unfold rightF
  rw [txP_name]
  simp only [Bool.and_eq_true, decide_eq_true_eq, List.all_eq_true]
  rfl

/-- b begins with the bytes of the fragment l, of a right form; they are j. -/
structure FReads (b : List UInt8) (l : List FI) (j : Nat) : Prop where
  right : rightF l = true
  len : j = (bytesF l).length
  eq : b = bytesF l ++ b.drop j
def NoFrag (b : List UInt8) : Prop := ∀ l j, ¬ FReads b l j
theorem FReads.of {b r : List UInt8} {l : List FI} (h : rightF l = true) (e : b = bytesF l ++ r) : FReads b l (bytesF l).length := ⟨h, rfl, by rw [e]; simp⟩
theorem FReads.run {b : List UInt8} {l : List FI} {j : Nat} (h : FReads b l j) : fragS nameB (some b) = (l, some (b.drop j)) := by
  rw [h.eq]
  rw [(fragS_codec nameB).full l _ ((rightF_iff l).1 h.right), h.len, List.drop_left' rfl]
theorem fragS_reads {b r : List UInt8} {l : List FI} (h : fragS nameB (some b) = (l, some r)) : FReads b l (bytesF l).length ∧ r = b.drop (bytesF l).length := by
  obtain ⟨h1, h2⟩ := (fragS_codec nameB).sound _ _ _ h
  exact ⟨FReads.of ((rightF_iff l).2 h1) h2, by rw [h2]; simp⟩
theorem fragS_no {b : List UInt8} {l : List FI} (h : fragS nameB (some b) = (l, none)) : NoFrag b := fun l' j hr => by
  rw [hr.run] at h
  cases h
theorem FReads.same {b : List UInt8} {l m : List FI} {i j : Nat} (h : FReads b l i) (h' : FReads b m j) : l = m ∧ i = j := by
  have e := h.run.symm.trans h'.run
  simp only [Prod.mk.injEq] at e
  obtain ⟨rfl, _⟩ := e
  exact ⟨rfl, by rw [h.len, h'.len]⟩
theorem FReads.le {b : List UInt8} {l : List FI} {j : Nat} (h : FReads b l j) : j ≤ b.length := by
  have := congrArg List.length h.eq
  rw [List.length_append, ← h.len] at this
  omega
theorem FReads.taken {b : List UInt8} {l : List FI} {j : Nat} (h : FReads b l j) : b.take j = bytesF l := by
  rw [h.eq, h.len, List.take_left' rfl]
theorem bytesF_prefix {l m : List FI} {r q : List UInt8} (hl : rightF l = true) (hm : rightF m = true) (h : bytesF l ++ r = bytesF m ++ q) : l = m ∧ r = q := (fragS_codec nameB).inj ((rightF_iff l).1 hl) ((rightF_iff m).1 hm) h
/-- Nothing less of its bytes is a fragment. -/
theorem noFrag_less {l : List FI} {i : Nat} (hl : rightF l = true) (h : i < (bytesF l).length) : NoFrag ((bytesF l).take i) := fun m j hr => by
  have e := hr.eq
  have h2 : bytesF m ++ (((bytesF l).take i).drop j ++ (bytesF l).drop i) = bytesF l ++ [] := by
    rw [← List.append_assoc, ← e, List.take_append_drop, List.append_nil]
  obtain ⟨_, h3⟩ := bytesF_prefix hr.right hl h2
  have h4 := congrArg List.length h3
  simp only [List.length_append, List.length_drop, List.length_nil] at h4
  omega
/-- Unlike right fragments have unlike bytes. -/
theorem bytesF_part {l m : List FI} (hl : rightF l = true) (hm : rightF m = true) : bytesF l = bytesF m ↔ l = m := by
  constructor
  · intro h
    exact (bytesF_prefix (r := []) (q := []) hl hm (by rw [h])).1
  · intro h; rw [h]

/-- How long. -/
theorem textB_le {s : List UInt8} {m : Nat} (h : s.length ≤ m) (hm : m ≤ 1000000) : (textB s).length ≤ m + 10 := by
  unfold textB
  rw [List.length_append]
  have := numB_ten (n := ((s.length : Nat) : Int)) (by unfold InR; omega)
  omega
theorem flat_le {α : Type} {f : α → List UInt8} {m : Nat} : ∀ {l : List α}, (∀ x ∈ l, (f x).length ≤ m) → (l.flatMap f).length ≤ m * l.length
  | [], _ => by simp
  | x :: l, h => by
    have h1 := h x (by simp)
    have h2 := flat_le (l := l) (fun y hy => h y (by simp [hy]))
    rw [List.flatMap_cons, List.length_append, List.length_cons, Nat.mul_succ]
    omega
theorem FI.bytes_le {x : FI} (h : x.right = true) : x.bytes.length ≤ 760 := by
  unfold FI.right FI.okP at h
  simp only [Bool.and_eq_true, decide_eq_true_eq] at h
  obtain ⟨⟨⟨⟨hn, hal⟩, haa⟩, hq0, hq⟩, hko⟩ := h
  have h1 := textB_le (nameB_len hn) (by omega)
  have h2 := flat_le (f := textB) (m := 30) (l := x.after) (fun s hs => textB_le (nameB_len (List.all_eq_true.1 haa s hs)) (by omega))
  have hk : x.k ≤ 1 := by
    unfold FI.kindOk at hko
    simp only [Bool.or_eq_true, Bool.and_eq_true, decide_eq_true_eq] at hko
    rcases hko with ⟨⟨h, _⟩, _⟩ | ⟨⟨⟨h, _⟩, _⟩, _⟩ <;> omega
  have h3 : x.tail.length ≤ 40 := by
    unfold FI.tail
    split
    · rename_i hk1
      unfold FI.kindOk at hko
      simp only [Bool.or_eq_true, Bool.and_eq_true, decide_eq_true_eq] at hko
      rcases hko with ⟨⟨h, _⟩, _⟩ | ⟨⟨⟨_, ho⟩, hw0⟩, hw⟩
      · omega
      · have h5 := textB_le (nameB_len ho) (by omega)
        have h6 := numB_ten (n := x.width) (by unfold InR; omega)
        rw [List.length_append]
        omega
    · simp
  have h4 := numB_ten (n := ((x.k : Nat) : Int)) (by unfold InR; omega)
  have h5 := numB_ten (n := ((x.after.length : Nat) : Int)) (by unfold InR; omega)
  have h6 := numB_ten (n := x.quota) (by unfold InR; omega)
  have h7 : 30 * x.after.length ≤ 600 := by omega
  unfold FI.bytes
  simp only [List.length_append]
  omega
theorem bytesF_le {l : List FI} (h : rightF l = true) : (bytesF l).length ≤ 31000 := by
  unfold rightF at h
  simp only [Bool.and_eq_true, decide_eq_true_eq] at h
  have h1 := flat_le (f := FI.bytes) (m := 760) (l := l) (fun x hx => FI.bytes_le (List.all_eq_true.1 h.2 x hx))
  have h2 := numB_ten (n := ((l.length : Nat) : Int)) (by unfold InR; omega)
  have h3 : 760 * l.length ≤ 30400 := by omega
  unfold bytesF
  rw [List.length_append]
  omega
theorem bytesF_pos (l : List FI) : 0 < (bytesF l).length := by
  unfold bytesF
  rw [List.length_append]
  have := numB_pos ((l.length : Nat) : Int)
  omega
end Go.Proofs.Yteggocgfaejmbaa

namespace Go.Proofs.Yteggocgfaejmbaa
open Go.RowKit

/-- Fresh, and a row of its own. -/
def FreshO (w w' : World) (r : Value) (bs : List UInt8) : Prop := Fresh w w' r bs ∧ w'.ownsRow 0 5 1 r bs.length (bs.map bv)

/-- Where append of bytes onto the empty row, or onto such a row, leads. -/
theorem grown_below {w W W' : World} {v v' : Value} (hb : Below w.heap.size w W) (hv : ∀ k, v.ownBlock = some k → w.heap.size ≤ k) (hg : W.grownBy W' v.ownBlock) (hn : v'.ownBlock = v.ownBlock ∨ ∃ k, v'.ownBlock = some k ∧ W.heap.size ≤ k) : Below w.heap.size w W' ∧ ∀ k, v'.ownBlock = some k → w.heap.size ≤ k :=
  ⟨hb.grown hg hb.size hv, fun k hk => by
    rcases hn with e | ⟨k', e, hle⟩
    · rw [e] at hk; exact hv k hk
    · rw [e] at hk; cases hk; have := hb.size; omega⟩

theorem below_drewN (w : World) (n : Nat) : Below w.heap.size w (w.drewN n) := ⟨rfl, rfl, rfl, Nat.le_refl _, fun _ _ => rfl⟩
theorem own_none (w : World) : w.ownsRow 0 5 1 (.slice none 0 0) ([] : List UInt8).length (([] : List UInt8).map bv) := ⟨by simp, .inl ⟨rfl, rfl⟩⟩
/-- One byte in a block of its own. -/
theorem bytes_one (w : World) (y : UInt8) : Bytes (w.alloc (.cells #[.int .u8 (y.toNat : Nat)] 5)) (.slice (some ⟨w.heap.size, 0, none⟩) 1 1) [y] := by
  refine .inr ⟨⟨w.heap.size, 0, none⟩, 1, rfl, Nat.le_refl _, by unfold maxLen; omega, fun j x hx => ?_⟩
  rw [Addr.add_mid, Nat.zero_add, cell_of_row _ _ _ _ _ _ (heap_alloc_new w _)]
  have hx' : [bv y][j]? = some x := hx
  show [bv y].toArray[j]? = some x
  simpa using hx'

/-- A row under way: its bytes, in a block that is new since w. -/
structure Own (w : World) (r : Value) (bs : List UInt8) (W : World) : Prop where
  own : W.ownsRow 0 5 1 r bs.length (bs.map bv)
  new : ∀ k, r.ownBlock = some k → w.heap.size ≤ k
  bb : Below w.heap.size w W
theorem Own.fresh {w W : World} {r : Value} {bs : List UInt8} (h : Own w r bs W) : FreshO w W r bs := ⟨⟨bytes_of_owns h.own, fun k hk => ⟨h.new k hk, (h.own.lt k hk).2⟩, h.bb⟩, h.own⟩
theorem Own.later {w W W' : World} {r : Value} {bs : List UInt8} (h : Own w r bs W) (hb : Below W.heap.size W W') : Own w r bs W' := ⟨own_keeps h.own fun k hk => hb.block k (h.own.lt k hk).2, h.new, h.bb.trans (hb.mono h.bb.size)⟩
theorem Own.alloc {w W : World} {r : Value} {bs : List UInt8} (h : Own w r bs W) (o : Obj) : Own w r bs (W.alloc o) := h.later ((Below.refl _ W).alloc (Nat.le_refl _) _)
/-- Behind an append. -/
theorem Own.grown {w W W' : World} {r r' : Value} {bs cs : List UInt8} (h : Own w r bs W) (r1 : W'.ownsRow 0 5 1 r' cs.length (cs.map bv)) (r2 : W.grownBy W' r.ownBlock) (r3 : r'.ownBlock = r.ownBlock ∨ ∃ k, r'.ownBlock = some k ∧ W.heap.size ≤ k) : Own w r' cs W' := by
  obtain ⟨h1, h2⟩ := grown_below h.bb h.new r2 r3
  exact ⟨r1, h2, h1⟩
theorem Own.start (w : World) : Own w (.slice none 0 0) [] w := ⟨own_none w, fun k hk => (by cases hk), Below.refl _ w⟩
theorem FreshO.own {w W W' : World} {r : Value} {bs : List UInt8} (h : FreshO W W' r bs) (hb : Below w.heap.size w W) : Own w r bs W' := ⟨h.2, fun k hk => by have := (h.1.2.1 k hk).1; have := hb.size; omega, hb.trans (h.1.2.2.mono hb.size)⟩

theorem Own.lift {w W W' : World} {v : Value} {bs : List UInt8} (h : Own W v bs W') (hb : Below w.heap.size w W) : Own w v bs W' := ⟨h.own, fun k hk => by have := h.new k hk; have := hb.size; omega, hb.trans (h.bb.mono hb.size)⟩

end Go.Proofs.Yteggocgfaejmbaa

namespace Go.Proofs.Yteggocgfaejmbaa
open Go.RowKit

/-- append of bytes as one step of a region that draws its order. -/
theorem step_append_bytes {P : Program} {ops : Array Oper} {op : Oper} {a : Act} {w : World} {K : Act → World → Prop} {Q : Exit → Act → World → Prop} {E : Prop}
    (hg : op.guard = none) (s x : Operand) (t : TypeId) (hop : op.op = Op.call { callee := Callee.builtin Builtin.append, args := #[s, x], argTypes := #[t, t] })
    (e : TypeId) (i : TypeInfo) (z : Value) (ht : P.underlying t = some (.slice e)) (hi : P.info? e = some i) (hz : i.zero = some z) (hs : i.size = 1) (hb : i.bytes = 1) (hzs : z.cells.size = 1)
    (v : Value) (xs : List UInt8) (hsv : a.eval s = v) (hown : w.ownsRow 0 e 1 v xs.length (xs.map bv)) (u : Value) (bs : List UInt8) (hxu : a.eval x = u) (hu : Bytes w u bs) (hl : xs.length + bs.length ≤ 140737488355328)
    (hK : ∀ v' w', w'.ownsRow 0 e 1 v' (xs ++ bs).length ((xs ++ bs).map bv) → w.grownBy w' v.ownBlock → (v'.ownBlock = v.ownBlock ∨ ∃ k, v'.ownBlock = some k ∧ w.heap.size ≤ k) → K (a.put op.dst v') w') :
    if Region.wanted op (yielded ops a.tmps) = true then Oper.wp P op a w K Q else E := by
  have hw : Region.wanted op (yielded ops a.tmps) = true := by simp [Region.wanted, hg]
  rw [if_pos hw]
  obtain ⟨v', w', hrun, r1, r2, r3⟩ := run_append_bytes (P := P) w t op.type e i z ht hi hz hs hb hzs v xs hown u bs hu hl
  unfold Oper.wp
  simp [execOp, hop, resolve, invoke, builtin, hsv, hxu, hrun, Result.andThen]
  exact hK v' w' r1 r2 r3

/-- copy into the middle of a block, at the walk's list of operations. -/
theorem wpList_copy_mid {P : Program} {w : World} {ops : Array Oper} {rest : List Oper} {op : Oper} {a : Act} {Q : Exit → Act → World → Prop} (hgd : op.guard = none) (d s : Operand) (dT sT : TypeId)
    (ho : op.op = .call { callee := .builtin .copy, args := #[d, s], argTypes := #[dT, sT] }) (elem : TypeId) (hu : P.underlying dT = some (.slice elem)) (hsz : (P.info? elem).map (·.size) = some 1)
    (b o dLen dCap : Nat) (ad : Addr) (sLen sCap : Nat) (hd : a.eval d = .slice (some ⟨b, o, none⟩) dLen dCap) (hs : a.eval s = .slice (some ad) sLen sCap)
    (cs : List Value) (hn : cs.length = Nat.min sLen dLen) (hsrc : ∀ j u, cs[j]? = some u → w.cell? (ad.add j) = some u) (ht : w.there b o cs.length) (h1 : ∀ u ∈ cs, u.oneCell' = true)
    (h : wpList P ops Q rest (a.put op.dst (goInt cs.length)) (w.setCells b o cs)) : wpList P ops Q (op :: rest) a w := by
  refine wpList_plain hgd fun K hK => ?_
  have hrun := run_copy_cells (P := P) w dT sT op.type elem b o dLen dCap ad sLen sCap cs hu hsz hn hsrc (fun j hj => (ht j hj).1) (fun j hj => (ht j hj).2) h1
  unfold Oper.wp
  simp [execOp, ho, resolve, invoke, builtin, hd, hs, hrun, Result.andThen]
  exact hK _ _ h

theorem infoByteSize : (Try.prog.info? 5).map (·.size) = some 1 := by kernel_rfl

end Go.Proofs.Yteggocgfaejmbaa

namespace Go.Proofs.Yteggocgfaejmbaa
open Go.RowKit

/-- Texts in a row. -/
def StrsAt (B : Nat → Prop) (W : World) (a : Option Addr) (l : List (List UInt8)) : Prop :=
  ∀ j (h : j < l.length), ∃ b o, a = some ⟨b, o, none⟩ ∧ B b ∧ W.cell? ⟨b, o + j, none⟩ = some (.string ⟨(l[j]'h).toArray⟩) ∧ (l[j]'h).length ≤ maxLen
theorem StrsAt.nil (B : Nat → Prop) (W : World) (a : Option Addr) : StrsAt B W a [] := fun j h => absurd h (Nat.not_lt_zero j)
theorem StrsAt.kept {B B' : Nat → Prop} {W W' : World} {a : Option Addr} {l : List (List UInt8)} (h : StrsAt B W a l) (hk : ∀ k, B k → k < W.heap.size → W'.heap[k]? = W.heap[k]?) (hB : ∀ k, B k → k < W.heap.size → B' k) : StrsAt B' W' a l := fun j hj => by
  obtain ⟨b, o, ha, hb, hc, hl⟩ := h j hj
  have hlt : b < W.heap.size := World.block_lt_of_cell? W _ hc
  exact ⟨b, o, ha, hB b hb hlt, (World.cell?_of_block (a := ⟨b, o + j, none⟩) (hk b hb hlt)).trans hc, hl⟩
theorem StrsAt.unique {B B' : Nat → Prop} {W : World} {a : Option Addr} {l m : List (List UInt8)} (h : StrsAt B W a l) (h' : StrsAt B' W a m) (hl : l.length = m.length) : l = m := by
  refine List.ext_getElem hl fun j h1 h2 => ?_
  obtain ⟨b, o, ha, _, hc, _⟩ := h j h1
  obtain ⟨b', o', ha', _, hc', _⟩ := h' j h2
  rw [ha] at ha'
  simp only [Option.some.injEq, Addr.mk.injEq, and_true] at ha'
  obtain ⟨rfl, rfl⟩ := ha'
  rw [hc] at hc'
  simp only [Option.some.injEq, Value.string.injEq, ByteArray.mk.injEq] at hc'
  simpa using congrArg Array.toList hc'

namespace FI
/-- The six cells of an item. -/
def agg (x : FI) (a : Option Addr) (c : Nat) : Value := .agg #[.string ⟨x.name.toArray⟩, .int .u8 ((x.k : Nat) : Int), .slice a x.after.length c, .string ⟨x.over.toArray⟩, .int .i64 x.width, .int .i64 x.quota]
/-- Bounds of what is in memory. -/
structure Fits (x : FI) : Prop where
  nm : x.name.length ≤ maxLen
  kb : x.k < 256
  ov : x.over.length ≤ maxLen
  wd : InR x.width
  qt : InR x.quota
/-- The struct u reads as the item; the blocks of its names are of B. -/
def At (B : Nat → Prop) (W : World) (x : FI) (u : Value) : Prop := ∃ a c, u = x.agg a c ∧ x.Fits ∧ x.after.length ≤ c ∧ c ≤ maxLen ∧ StrsAt B W a x.after
theorem At.kept {B B' : Nat → Prop} {W W' : World} {x : FI} {u : Value} (h : x.At B W u) (hk : ∀ k, B k → k < W.heap.size → W'.heap[k]? = W.heap[k]?) (hB : ∀ k, B k → k < W.heap.size → B' k) : x.At B' W' u := by
  obtain ⟨a, c, h1, h2, h3, h4, h5⟩ := h
  exact ⟨a, c, h1, h2, h3, h4, h5.kept hk hB⟩
theorem At.later {B : Nat → Prop} {W W' : World} {x : FI} {u : Value} (h : x.At B W u) (hb : Below W.heap.size W W') : x.At B W' u := h.kept (fun k _ hk => hb.block k hk) (fun _ hB _ => hB)
theorem At.wider {B B' : Nat → Prop} {W : World} {x : FI} {u : Value} (h : x.At B W u) (hB : ∀ k, B k → B' k) : x.At B' W u := h.kept (fun _ _ _ => rfl) (fun k hk _ => hB k hk)
theorem At.unique {B B' : Nat → Prop} {W : World} {x y : FI} {u : Value} (h : x.At B W u) (h' : y.At B' W u) : x = y := by
  obtain ⟨a, c, rfl, f1, _, _, h5⟩ := h
  obtain ⟨a', c', hu, f2, _, _, h5'⟩ := h'
  unfold agg at hu
  simp only [Value.agg.injEq] at hu
  replace hu := congrArg Array.toList hu
  simp only [List.cons.injEq, and_true, Value.int.injEq, true_and, Value.string.injEq, Value.slice.injEq, ByteArray.mk.injEq] at hu
  obtain ⟨h1, h2, ⟨h3, h4, _⟩, h6, h7, h8⟩ := hu
  subst h3
  have hal := h5.unique h5' h4
  obtain ⟨nm, k, af, ov, wd, qt⟩ := x
  obtain ⟨nm', k', af', ov', wd', qt'⟩ := y
  simp only at h1 h2 h6 h7 h8 hal
  have e1 : nm = nm' := by simpa using congrArg Array.toList h1
  have e2 : k = k' := by omega
  have e3 : ov = ov' := by simpa using congrArg Array.toList h6
  subst e1 e2 e3 h7 h8 hal
  rfl

/-- An item's cells at an address. -/
structure Cells (W : World) (g o : Nat) (x : FI) (a : Option Addr) (c : Nat) : Prop where
  c0 : W.cell? ⟨g, o, none⟩ = some (.string ⟨x.name.toArray⟩)
  c1 : W.cell? ⟨g, o + 1, none⟩ = some (.int .u8 ((x.k : Nat) : Int))
  c2 : W.cell? ⟨g, o + 2, none⟩ = some (.slice a x.after.length c)
  c3 : W.cell? ⟨g, o + 3, none⟩ = some (.string ⟨x.over.toArray⟩)
  c4 : W.cell? ⟨g, o + 4, none⟩ = some (.int .i64 x.width)
  c5 : W.cell? ⟨g, o + 5, none⟩ = some (.int .i64 x.quota)
theorem Cells.kept {W W' : World} {g o : Nat} {x : FI} {a : Option Addr} {c : Nat} (h : x.Cells W g o a c) (hk : W'.heap[g]? = W.heap[g]?) : x.Cells W' g o a c := by
  have hc : ∀ {p : Nat} {v : Value}, W.cell? ⟨g, p, none⟩ = some v → W'.cell? ⟨g, p, none⟩ = some v := fun hx => (World.cell?_of_block (a := ⟨g, _, none⟩) hk).trans hx
  exact ⟨hc h.c0, hc h.c1, hc h.c2, hc h.c3, hc h.c4, hc h.c5⟩
theorem Cells.lt {W : World} {g o : Nat} {x : FI} {a : Option Addr} {c : Nat} (h : x.Cells W g o a c) : g < W.heap.size := World.block_lt_of_cell? W _ h.c0
/-- One item of a row, in memory. -/
def Elem (B : Nat → Prop) (W : World) (x : FI) (a : Option Addr) (i : Nat) : Prop :=
  ∃ b o pa pc, a = some ⟨b, o, none⟩ ∧ B b ∧ x.Cells W b (o + i * 6) pa pc ∧ x.Fits ∧ x.after.length ≤ pc ∧ pc ≤ maxLen ∧ StrsAt B W pa x.after
theorem Elem.kept {B B' : Nat → Prop} {W W' : World} {x : FI} {a : Option Addr} {i : Nat} (h : x.Elem B W a i) (hk : ∀ k, B k → k < W.heap.size → W'.heap[k]? = W.heap[k]?) (hB : ∀ k, B k → k < W.heap.size → B' k) : x.Elem B' W' a i := by
  obtain ⟨b, o, pa, pc, h1, h2, h3, h4, h5, h6, h7⟩ := h
  exact ⟨b, o, pa, pc, h1, hB b h2 h3.lt, h3.kept (hk b h2 h3.lt), h4, h5, h6, h7.kept hk hB⟩
theorem Elem.at {B : Nat → Prop} {W : World} {x : FI} {pa : Option Addr} {pc : Nat} (h4 : x.Fits) (h5 : x.after.length ≤ pc) (h6 : pc ≤ maxLen) (h7 : StrsAt B W pa x.after) : x.At B W (x.agg pa pc) := ⟨pa, pc, rfl, h4, h5, h6, h7⟩
end FI

/-- Items in a row. -/
def ItemsAt (B : Nat → Prop) (W : World) (a : Option Addr) (l : List FI) : Prop := ∀ j (h : j < l.length), (l[j]'h).Elem B W a j
/-- The slice u reads as the fragment; it and what it reaches lie in blocks of B. -/
def FragAt (B : Nat → Prop) (W : World) (l : List FI) (u : Value) : Prop := ∃ a c, u = .slice a l.length c ∧ l.length ≤ c ∧ c ≤ maxLen ∧ ItemsAt B W a l
theorem ItemsAt.kept {B B' : Nat → Prop} {W W' : World} {a : Option Addr} {l : List FI} (h : ItemsAt B W a l) (hk : ∀ k, B k → k < W.heap.size → W'.heap[k]? = W.heap[k]?) (hB : ∀ k, B k → k < W.heap.size → B' k) : ItemsAt B' W' a l := fun j hj => (h j hj).kept hk hB
theorem ItemsAt.later {B : Nat → Prop} {W W' : World} {a : Option Addr} {l : List FI} (h : ItemsAt B W a l) (hb : Below W.heap.size W W') : ItemsAt B W' a l := h.kept (fun k _ hk => hb.block k hk) (fun _ hB _ => hB)
theorem FragAt.kept {B B' : Nat → Prop} {W W' : World} {l : List FI} {u : Value} (h : FragAt B W l u) (hk : ∀ k, B k → k < W.heap.size → W'.heap[k]? = W.heap[k]?) (hB : ∀ k, B k → k < W.heap.size → B' k) : FragAt B' W' l u := by
  obtain ⟨a, c, h1, h2, h3, h4⟩ := h
  exact ⟨a, c, h1, h2, h3, h4.kept hk hB⟩
theorem FragAt.later {B : Nat → Prop} {W W' : World} {l : List FI} {u : Value} (h : FragAt B W l u) (hb : Below W.heap.size W W') : FragAt B W' l u := h.kept (fun k _ hk => hb.block k hk) (fun _ hB _ => hB)
theorem FragAt.wider {B B' : Nat → Prop} {W : World} {l : List FI} {u : Value} (h : FragAt B W l u) (hB : ∀ k, B k → B' k) : FragAt B' W l u := h.kept (fun _ _ _ => rfl) (fun k hk _ => hB k hk)
theorem FragAt.nil (B : Nat → Prop) (W : World) : FragAt B W [] (.slice none 0 0) := ⟨none, 0, rfl, Nat.le_refl _, Nat.zero_le _, fun j h => absurd h (Nat.not_lt_zero j)⟩
theorem FragAt.form {B : Nat → Prop} {W : World} {l : List FI} {u : Value} (h : FragAt B W l u) : ∃ a c, u = .slice a l.length c ∧ l.length ≤ c := by
  obtain ⟨a, c, h1, h2, _⟩ := h
  exact ⟨a, c, h1, h2⟩
theorem ItemsAt.unique {B B' : Nat → Prop} {W : World} {a : Option Addr} {l m : List FI} (h : ItemsAt B W a l) (h' : ItemsAt B' W a m) (hl : l.length = m.length) : l = m := by
  refine List.ext_getElem hl fun j h1 h2 => ?_
  obtain ⟨b, o, pa, pc, ha, _, hc, hf, hq, hm, hs⟩ := h j h1
  obtain ⟨b', o', pa', pc', ha', _, hc', hf', hq', hm', hs'⟩ := h' j h2
  rw [ha] at ha'
  simp only [Option.some.injEq, Addr.mk.injEq, and_true] at ha'
  obtain ⟨rfl, rfl⟩ := ha'
  have e0 := hc.c0.symm.trans hc'.c0
  have e1 := hc.c1.symm.trans hc'.c1
  have e2 := hc.c2.symm.trans hc'.c2
  have e3 := hc.c3.symm.trans hc'.c3
  have e4 := hc.c4.symm.trans hc'.c4
  have e5 := hc.c5.symm.trans hc'.c5
  simp only [Option.some.injEq] at e0 e1 e2 e3 e4 e5
  have eu : (l[j]'h1).agg pa pc = (m[j]'h2).agg pa' pc' := by
    unfold FI.agg
    rw [e0, e1, e2, e3, e4, e5]
  have h3 : (l[j]'h1).At B W ((l[j]'h1).agg pa pc) := ⟨pa, pc, rfl, hf, hq, hm, hs⟩
  have h4 : (m[j]'h2).At B' W ((l[j]'h1).agg pa pc) := ⟨pa', pc', eu, hf', hq', hm', hs'⟩
  exact h3.unique h4

/-- A block of six cells. -/
theorem cells6 {W : World} {g : Nat} {v0 v1 v2 v3 v4 v5 : Value} {t : TypeId} {fr : Nat × Nat} (h : W.heap[g]? = some (.cells #[v0, v1, v2, v3, v4, v5] t fr)) :
    W.cell? ⟨g, 0, none⟩ = some v0 ∧ W.cell? ⟨g, 1, none⟩ = some v1 ∧ W.cell? ⟨g, 2, none⟩ = some v2 ∧ W.cell? ⟨g, 3, none⟩ = some v3 ∧ W.cell? ⟨g, 4, none⟩ = some v4 ∧ W.cell? ⟨g, 5, none⟩ = some v5 :=
  ⟨cell_of_row _ _ 0 _ _ _ h, cell_of_row _ _ 1 _ _ _ h, cell_of_row _ _ 2 _ _ _ h, cell_of_row _ _ 3 _ _ _ h, cell_of_row _ _ 4 _ _ _ h, cell_of_row _ _ 5 _ _ _ h⟩

namespace FI
/-- What a struct that reads as an item is made of. -/
theorem At.form {B : Nat → Prop} {W : World} {x : FI} {u : Value} (h : x.At B W u) : ∃ (z : ByteArray) (K : Nat) (pa : Option Addr) (pn pc : Nat) (zo : ByteArray) (wd qt : Int), u = .agg #[.string z, .int .u8 ((K : Nat) : Int), .slice pa pn pc, .string zo, .int .i64 wd, .int .i64 qt] := by
  obtain ⟨a, c, h1, _⟩ := h
  exact ⟨_, _, _, _, _, _, _, _, h1⟩
/-- And what these are. -/
structure Parts (B : Nat → Prop) (W : World) (x : FI) (z : ByteArray) (K : Nat) (pa : Option Addr) (pn pc : Nat) (zo : ByteArray) (wd qt : Int) : Prop where
  nm : z = ⟨x.name.toArray⟩
  kd : K = x.k
  an : pn = x.after.length
  ov : zo = ⟨x.over.toArray⟩
  wd : wd = x.width
  qt : qt = x.quota
  fits : x.Fits
  le : pn ≤ pc
  cm : pc ≤ maxLen
  strs : StrsAt B W pa x.after
theorem At.parts {B : Nat → Prop} {W : World} {x : FI} {z : ByteArray} {K : Nat} {pa : Option Addr} {pn pc : Nat} {zo : ByteArray} {wd qt : Int} (h : x.At B W (.agg #[.string z, .int .u8 ((K : Nat) : Int), .slice pa pn pc, .string zo, .int .i64 wd, .int .i64 qt])) : Parts B W x z K pa pn pc zo wd qt := by
  obtain ⟨a, c, hu, f1, h3, h4, h5⟩ := h
  unfold agg at hu
  simp only [Value.agg.injEq] at hu
  replace hu := congrArg Array.toList hu
  simp only [List.cons.injEq, and_true, Value.int.injEq, true_and, Value.string.injEq, Value.slice.injEq] at hu
  obtain ⟨e1, e2, ⟨e3, e4, e5⟩, e6, e7, e8⟩ := hu
  subst e3 e5
  exact ⟨e1, by omega, e4, e6, e7, e8, f1, by omega, h4, h5⟩
theorem Parts.at {B : Nat → Prop} {W : World} {x : FI} {z : ByteArray} {K : Nat} {pa : Option Addr} {pn pc : Nat} {zo : ByteArray} {wd qt : Int} (h : Parts B W x z K pa pn pc zo wd qt) : x.At B W (.agg #[.string z, .int .u8 ((K : Nat) : Int), .slice pa pn pc, .string zo, .int .i64 wd, .int .i64 qt]) := by
  obtain ⟨rfl, rfl, rfl, rfl, rfl, rfl, h1, h2, h3, h4⟩ := h
  exact ⟨pa, pc, rfl, h1, h2, h3, h4⟩
/-- An item of a row, its cells under names. -/
theorem Elem.out {B : Nat → Prop} {W : World} {x : FI} {a : Option Addr} {i : Nat} (h : x.Elem B W a i) : ∃ (b o : Nat) (z : ByteArray) (K : Nat) (pa : Option Addr) (pn pc : Nat) (zo : ByteArray) (wd qt : Int), a = some ⟨b, o, none⟩ ∧ B b ∧ W.cell? ⟨b, o + i * 6, none⟩ = some (.string z) ∧ W.cell? ⟨b, o + i * 6 + 1, none⟩ = some (.int .u8 ((K : Nat) : Int)) ∧ W.cell? ⟨b, o + i * 6 + 2, none⟩ = some (.slice pa pn pc) ∧ W.cell? ⟨b, o + i * 6 + 3, none⟩ = some (.string zo) ∧ W.cell? ⟨b, o + i * 6 + 4, none⟩ = some (.int .i64 wd) ∧ W.cell? ⟨b, o + i * 6 + 5, none⟩ = some (.int .i64 qt) ∧
    x.At B W (.agg #[.string z, .int .u8 ((K : Nat) : Int), .slice pa pn pc, .string zo, .int .i64 wd, .int .i64 qt]) := by
  obtain ⟨b, o, pa, pc, h1, h2, h3, h4, h5, h6, h7⟩ := h
  exact ⟨b, o, _, _, pa, _, pc, _, _, _, h1, h2, h3.c0, h3.c1, h3.c2, h3.c3, h3.c4, h3.c5, ⟨pa, pc, rfl, h4, h5, h6, h7⟩⟩
end FI
theorem str_empty (s : List UInt8) : (⟨s.toArray⟩ : ByteArray).toList.isEmpty = s.isEmpty := by
  rw [ByteArray.toList_eq]
theorem str_eq (s t : List UInt8) : ((⟨s.toArray⟩ : ByteArray).toList == (⟨t.toArray⟩ : ByteArray).toList) = decide (s = t) := by
  rw [ByteArray.toList_eq, ByteArray.toList_eq, Bool.eq_iff_iff]; simp
end Go.Proofs.Yteggocgfaejmbaa
