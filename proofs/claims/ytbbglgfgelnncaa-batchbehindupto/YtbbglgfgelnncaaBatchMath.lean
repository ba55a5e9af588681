/- Batches as bytes: what is put, what is scanned. Our own definitions; no statement of the seat is proved here. -/
import Derived.Test.YtbbglgfgelnncaaRecPure
namespace Go.Proofs.Ytbbglgfgelnncaa

/-- A row as a record; the record behind so many rows. -/
def dat (d : List UInt8) : RecD := ⟨1, d⟩
def two (n : Nat) : List UInt8 := [UInt8.ofNat (n % 256), UInt8.ofNat (n / 256 % 256)]
def commit (n : Nat) : RecD := ⟨2, two n⟩
/-- A batch as records, and as bytes. -/
def recsOf (rows : List (List UInt8)) : List RecD := rows.map dat ++ [commit rows.length]
def bput (rows : List (List UInt8)) : List UInt8 := puts (recsOf rows)
/-- A right batch. -/
def okRows (rows : List (List UInt8)) : Prop := (1 ≤ rows.length ∧ rows.length ≤ 1024) ∧ ∀ r ∈ rows, r.length ≤ 4096
/-- What Put answers: the error, or 0. -/
def bputErr (rows : List (List UInt8)) : Int := if rows.length < 1 ∨ 1024 < rows.length then 34 else if ∀ r ∈ rows, r.length ≤ 4096 then 0 else 31
def bputOf (rows : List (List UInt8)) : List UInt8 := if bputErr rows = 0 then bput rows else []

theorem bputErr_zero {rows : List (List UInt8)} : bputErr rows = 0 ↔ okRows rows := by
  unfold bputErr okRows
  constructor
  · intro h
    split at h
    · cases h
    · split at h
      · rename_i h1 h2; exact ⟨by omega, h2⟩
      · cases h
  · rintro ⟨h1, h2⟩
    rw [if_neg (by omega), if_pos h2]

theorem dat_right {d : List UInt8} (h : d.length ≤ 4096) : (dat d).right := ⟨⟨(by decide : 1 ≤ (1 : UInt8).toNat), (by decide : (1 : UInt8).toNat ≤ 2)⟩, h⟩
theorem two_len (n : Nat) : (two n).length = 2 := rfl
theorem commit_right (n : Nat) : (commit n).right := ⟨⟨(by decide : 1 ≤ (2 : UInt8).toNat), (by decide : (2 : UInt8).toNat ≤ 2)⟩, by show 2 ≤ 4096; omega⟩
theorem le_two {n : Nat} (h : n < 65536) : le (two n) = n := by
  show (UInt8.ofNat (n % 256)).toNat + 256 * ((UInt8.ofNat (n / 256 % 256)).toNat + 256 * 0) = n
  rw [u8_of _ (by omega), u8_of _ (by omega)]
  omega
theorem recsOf_right {rows : List (List UInt8)} (h : ∀ r ∈ rows, r.length ≤ 4096) : ∀ r ∈ recsOf rows, r.right := by
  intro r hr
  rcases List.mem_append.1 hr with hr | hr
  · obtain ⟨d, hd, rfl⟩ := List.mem_map.1 hr
    exact dat_right (h d hd)
  · rw [List.mem_singleton] at hr
    rw [hr]
    exact commit_right _

/-- What is scanned of records: the batches, where the last one ends, why it ended; f: why, if so many are kept at the end. -/
def scanGo (f : Nat → Int) : List RecD → List (List (List UInt8)) → List (List UInt8) → Nat → Nat → List (List (List UInt8)) × Nat × Int
  | [], out, kept, _, en => (out, en, f kept.length)
  | r :: rs, out, kept, at', en =>
    if r.k = 1 then if kept.length = 1024 then (out, en, 34) else scanGo f rs out (kept ++ [r.d]) (at' + (9 + r.d.length)) en
    else if kept.length = 0 ∨ r.d.length ≠ 2 ∨ le r.d ≠ kept.length then (out, en, 34) else scanGo f rs (out ++ [kept]) [] (at' + (9 + r.d.length)) (at' + (9 + r.d.length))

/-- Why it ended, if so many are kept. -/
def finErr (e : Int) (k : Nat) : Int := if e = 0 ∧ 0 < k then 32 else e
/-- What Scan answers. -/
def ScanIs (b : List UInt8) (bs : List (List (List UInt8))) (n : Nat) (x : Int) : Prop := ∃ rs m e, AllIs b rs m e ∧ scanGo (finErr e) rs [] [] 0 0 = (bs, n, x)
theorem ScanIs.same {b : List UInt8} {bs bs' : List (List (List UInt8))} {n n' : Nat} {x x' : Int} (h : ScanIs b bs n x) (h' : ScanIs b bs' n' x') : bs = bs' ∧ n = n' ∧ x = x' := by
  obtain ⟨rs, m, e, h1, h2⟩ := h
  obtain ⟨rs', m', e', h3, h4⟩ := h'
  obtain ⟨rfl, rfl, rfl⟩ := h1.same h3
  rw [h2] at h4
  simp only [Prod.mk.injEq] at h4
  exact h4
theorem AllIs.some (b : List UInt8) : ∃ rs m e, AllIs b rs m e := by
  suffices h : ∀ (n : Nat) (b : List UInt8), b.length ≤ n → ∃ rs m e, AllIs b rs m e from h _ b (Nat.le_refl _)
  intro n
  induction n with
  | zero =>
    intro b hb
    obtain rfl := List.eq_nil_of_length_eq_zero (by omega : b.length = 0)
    exact ⟨_, _, _, .none⟩
  | succ n ih =>
    intro b hb
    by_cases h0 : b = []
    · rw [h0]; exact ⟨_, _, _, .none⟩
    · by_cases he : takeErr b = 0
      · have h1 := (put_take b he).2.2.2.1
        obtain ⟨rs, m, e, h2⟩ := ih (b.drop (takeLen b)) (by rw [List.length_drop]; omega)
        exact ⟨_, _, _, .more h0 he h2⟩
      · exact ⟨_, _, _, .stop h0 he⟩

theorem scan_rows (f : Nat → Int) : ∀ (rows : List (List UInt8)) (rest : List RecD) (out : List (List (List UInt8))) (kept : List (List UInt8)) (at' en : Nat), kept.length + rows.length ≤ 1024 →
    scanGo f (rows.map dat ++ rest) out kept at' en = scanGo f rest out (kept ++ rows) (at' + (puts (rows.map dat)).length) en
  | [], rest, out, kept, at', en, _ => by simp [puts]
  | d :: rows, rest, out, kept, at', en, h => by
    rw [List.length_cons] at h
    show scanGo f (dat d :: (rows.map dat ++ rest)) out kept at' en = _
    have hk : (dat d).k = 1 := rfl
    rw [scanGo, if_pos hk, if_neg (by omega)]
    show scanGo f (rows.map dat ++ rest) out (kept ++ [d]) (at' + (9 + d.length)) en = _
    rw [scan_rows f rows rest out (kept ++ [d]) (at' + (9 + d.length)) en (by rw [List.length_append, List.length_singleton]; omega)]
    congr 1
    · rw [List.append_assoc]; rfl
    · rw [List.map_cons, puts_cons, List.length_append, put_len]
      show at' + (9 + d.length) + _ = at' + (9 + d.length + _)
      omega

theorem scan_batch (f : Nat → Int) (rows : List (List UInt8)) (h : 1 ≤ rows.length ∧ rows.length ≤ 1024) (rest : List RecD) (out : List (List (List UInt8))) (at' en : Nat) :
    scanGo f (recsOf rows ++ rest) out [] at' en = scanGo f rest (out ++ [rows]) [] (at' + (bput rows).length) (at' + (bput rows).length) := by
  unfold recsOf
  rw [List.append_assoc, scan_rows f rows _ out [] at' en (by rw [List.length_nil]; omega), List.nil_append]
  show scanGo f (commit rows.length :: rest) out rows _ en = _
  have hne : (commit rows.length).k ≠ 1 := (by decide : (2 : UInt8) ≠ 1)
  have hle : le (commit rows.length).d = rows.length := le_two (by omega)
  rw [scanGo, if_neg hne, if_neg (by rw [hle]; show ¬ (rows.length = 0 ∨ 2 ≠ 2 ∨ _); omega)]
  have e : (bput rows).length = (puts (rows.map dat)).length + (9 + (commit rows.length).d.length) := by
    unfold bput recsOf
    rw [puts_snoc, List.length_append, put_len]
  rw [e]
  congr 1 <;> omega

/-- Batches as records. -/
def recsAll (l : List (List (List UInt8))) : List RecD := l.flatMap recsOf
def bputs (l : List (List (List UInt8))) : List UInt8 := puts (recsAll l)
theorem bputs_nil : bputs [] = [] := rfl
theorem recsAll_cons (rows : List (List UInt8)) (l : List (List (List UInt8))) : recsAll (rows :: l) = recsOf rows ++ recsAll l := rfl
theorem recsAll_append (l m : List (List (List UInt8))) : recsAll (l ++ m) = recsAll l ++ recsAll m := List.flatMap_append ..
theorem bputs_append (l m : List (List (List UInt8))) : bputs (l ++ m) = bputs l ++ bputs m := by unfold bputs; rw [recsAll_append, puts_append]
theorem bputs_one (rows : List (List UInt8)) : bputs [rows] = bput rows := by unfold bputs bput recsAll; simp
theorem bputs_snoc (l : List (List (List UInt8))) (rows : List (List UInt8)) : bputs (l ++ [rows]) = bputs l ++ bput rows := by rw [bputs_append, bputs_one]
theorem recsAll_right {l : List (List (List UInt8))} (h : ∀ rows ∈ l, okRows rows) : ∀ r ∈ recsAll l, r.right := by
  intro r hr
  obtain ⟨rows, h1, h2⟩ := List.mem_flatMap.1 hr
  exact recsOf_right (h rows h1).2 r h2

theorem scan_batches (f : Nat → Int) : ∀ (l : List (List (List UInt8))), (∀ rows ∈ l, okRows rows) → ∀ (rest : List RecD) (out : List (List (List UInt8))) (at' : Nat),
    scanGo f (recsAll l ++ rest) out [] at' at' = scanGo f rest (out ++ l) [] (at' + (bputs l).length) (at' + (bputs l).length)
  | [], _, rest, out, at' => by simp [recsAll, bputs, puts]
  | rows :: l, h, rest, out, at' => by
    rw [recsAll_cons, List.append_assoc, scan_batch f rows (h rows (List.mem_cons_self ..)).1, scan_batches f l (fun r hr => h r (List.mem_cons_of_mem _ hr))]
    have e : (bputs (rows :: l)).length = (bput rows).length + (bputs l).length := by
      have : rows :: l = [rows] ++ l := rfl
      rw [this, bputs_append, bputs_one, List.length_append]
    rw [e]
    congr 1
    · rw [List.append_assoc]; rfl
    · omega
    · omega

/-- What stands behind. -/
theorem scan_shift (f : Nat → Int) : ∀ (rs : List RecD) (out : List (List (List UInt8))) (kept : List (List UInt8)) (a en s : Nat) (pre : List (List (List UInt8))) (bs : List (List (List UInt8))) (n : Nat) (x : Int),
    scanGo f rs out kept a en = (bs, n, x) → scanGo f rs (pre ++ out) kept (s + a) (s + en) = (pre ++ bs, s + n, x)
  | [], out, kept, a, en, s, pre, bs, n, x, h => by
    simp only [scanGo, Prod.mk.injEq] at h ⊢
    obtain ⟨rfl, rfl, rfl⟩ := h
    exact ⟨rfl, rfl, rfl⟩
  | r :: rs, out, kept, a, en, s, pre, bs, n, x, h => by
    rw [scanGo] at h ⊢
    by_cases h1 : r.k = 1
    · rw [if_pos h1] at h ⊢
      by_cases h2 : kept.length = 1024
      · rw [if_pos h2] at h ⊢
        simp only [Prod.mk.injEq] at h ⊢
        obtain ⟨rfl, rfl, rfl⟩ := h
        exact ⟨rfl, rfl, rfl⟩
      · rw [if_neg h2] at h ⊢
        have := scan_shift f rs out (kept ++ [r.d]) _ en s pre bs n x h
        rwa [← Nat.add_assoc] at this
    · rw [if_neg h1] at h ⊢
      by_cases h2 : kept.length = 0 ∨ r.d.length ≠ 2 ∨ le r.d ≠ kept.length
      · rw [if_pos h2] at h ⊢
        simp only [Prod.mk.injEq] at h ⊢
        obtain ⟨rfl, rfl, rfl⟩ := h
        exact ⟨rfl, rfl, rfl⟩
      · rw [if_neg h2] at h ⊢
        have := scan_shift f rs (out ++ [kept]) [] _ _ s pre bs n x h
        rwa [← Nat.add_assoc, ← List.append_assoc] at this

/-- P4.4: whatever stands behind whole batches. -/
theorem scan_behind {l : List (List (List UInt8))} (hl : ∀ rows ∈ l, okRows rows) {more : List UInt8} {rest : List (List (List UInt8))} {k : Nat} {x : Int} (h : ScanIs more rest k x) : ScanIs (bputs l ++ more) (l ++ rest) ((bputs l).length + k) x := by
  obtain ⟨rs, m, e, h1, h2⟩ := h
  obtain ⟨rs', m', e', h3⟩ := AllIs.some (bputs l ++ more)
  obtain ⟨ts, m'', e1, h4, e2⟩ := AllIs.behind (recsAll_right hl) h3
  obtain ⟨rfl, rfl, rfl⟩ := h1.same h4
  refine ⟨rs', m', e, h3, ?_⟩
  rw [e1, scan_batches _ l hl rs [] 0, Nat.zero_add, List.nil_append]
  have := scan_shift (finErr e) rs [] [] 0 0 (bputs l).length l rest k x h2
  rwa [List.append_nil, Nat.add_zero] at this
end Go.Proofs.Ytbbglgfgelnncaa
