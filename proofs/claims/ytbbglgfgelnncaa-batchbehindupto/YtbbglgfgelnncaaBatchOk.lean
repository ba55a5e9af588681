/- What is asked of package batch's five functions, as one proposition; the chapter's examples. No statement of the seat is proved here. -/
import Derived.Test.YtbbglgfgelnncaaBatchRef3
import Derived.Lib.SlBytesConst
namespace Go.Proofs.Ytbbglgfgelnncaa
open Go.RowKit

/-- Bytes that are new since w, and that may be written. -/
def MineB (w : World) (W : World) (u : Value) (x : List UInt8) : Prop := Bytes W u x ∧ (x ≠ [] → ∀ k, u.ownBlock = some k → w.heap.size ≤ k) ∧ ∀ ad n c, u = .slice (some ad) n c → ∀ j, j < x.length → W.frozen? (ad.add j) = false
theorem ListAt.imp {α : Type} {E E' : World → Value → α → Prop} {w : World} {u : Value} {xs : List α} (h : ListAt E w u xs) (hE : ∀ v x, E w v x → E' w v x) : ListAt E' w u xs := by
  rcases h with h | ⟨b, o, c, hv, hl, hr⟩
  · exact .inl h
  · exact .inr ⟨b, o, c, hv, hl, fun i x hx => by obtain ⟨v, h1, h2⟩ := hr i x hx; exact ⟨v, h1, hE v x h2⟩⟩

/-- The functions of package batch answer by definition, and leave all that was there alone. -/
structure BatchOk : Prop where
  put : ∀ (u : Value) (rows : List (List UInt8)) (w : World), RowsAt w u rows → (∀ r ∈ rows, rows.length ≤ 1024 → r.length ≤ 1048576) → Calls Try.prog 11 #[u] w fun e w' => ∃ v, e = .returned (.tuple #[v, .int .i64 (bputErr rows)]) ∧ Bytes w' v (bputOf rows) ∧ Below w.heap.size w w' ∧ (bputOf rows ≠ [] → ∀ k, v.ownBlock = some k → w.heap.size ≤ k)
  long : ∀ (u : Value) (rows : List (List UInt8)) (w : World), RowsAt w u rows → (∀ r ∈ rows, rows.length ≤ 1024 → r.length ≤ 1048576) → Calls Try.prog 13 #[u] w fun e w' => e = .returned (.tuple #[.int .i64 (((bputOf rows).length : Nat) : Int), .int .i64 (bputErr rows)]) ∧ Below w.heap.size w w'
  scan : ∀ (a : Option Addr) (n c : Nat) (b : List UInt8) (w : World), Bytes w (.slice a n c) b → n ≤ 1048576 → Calls Try.prog 16 #[.slice a n c] w fun e w' => ScanAt w b e w'
  cut : ∀ (a : Option Addr) (n c : Nat) (b : List UInt8) (w : World), Bytes w (.slice a n c) b → n ≤ 1048576 → Calls Try.prog 20 #[.slice a n c] w fun e w' => ∃ v rows, e = .returned v ∧ CutIs b rows ∧ ListAt (MineB w) w' v rows ∧ Below w.heap.size w w'
  glue : ∀ (u : Value) (rows : List (List UInt8)) (w : World), RowsAt w u rows → total rows ≤ 1048576 → rows.length ≤ 1048576 → Calls Try.prog 25 #[u] w fun e w' => ∃ v, e = .returned v ∧ Bytes w' v rows.flatten ∧ Below w.heap.size w w'

theorem bytes_block {W : World} {g : Nat} {t : TypeId} {fr : Nat × Nat} {bs : List UInt8} {cs : Array Value} (h : W.heap[g]? = some (.cells cs t fr)) (hc : cs = (bs.map bv).toArray) (hl : bs.length ≤ 1000) : Bytes W (.slice (some ⟨g, 0, none⟩) bs.length bs.length) bs := by
  refine .inr ⟨⟨g, 0, none⟩, bs.length, rfl, Nat.le_refl _, by unfold maxLen; omega, fun j x hx => ?_⟩
  rw [Addr.add_mid, Nat.zero_add, cell_of_row _ _ _ _ _ _ h, hc]
  simpa using hx

/-- How many batches bytes are, how many bytes, why it ended. -/
theorem scanned_any (hc : BatchOk) (a : Option Addr) (n c : Nat) (b : List UInt8) (bs : List (List (List UInt8))) (m : Nat) (x : Int) (w : World) (h : Bytes w (.slice a n c) b) (hl : n ≤ 1048576) (hs : ScanIs b bs m x) :
    Calls Try.prog 26 #[.slice a n c, .int .i64 ((bs.length : Nat) : Int), .int .i64 ((m : Nat) : Int), .int .i64 x] w fun e w' => e = .returned (.bool true) ∧ Below w.heap.size w w' := by
  have HC := hide hc
  have HH := hide h
  have HL := hide hl
  have HS := hide hs
  obtain ⟨nb, hnb⟩ : ∃ nb, nb = bs.length := ⟨_, rfl⟩
  rw [← hnb]
  have HNB := hide hnb
  clear hc h hl hs hnb
  go_enter Try.func26, Try.ntmps26
  go_wp2_with fail
  refine ((unhide HC).scan a n c b _ (unhide HH) (unhide HL)).mono ?_
  rintro e w2 ⟨v, bs', m', x', rfl, hs', hB, hb⟩
  obtain ⟨rfl, rfl, rfl⟩ := (unhide HS).same hs'
  obtain ⟨va, vc, ev, _⟩ := hB.form
  rw [← unhide HNB] at ev
  subst ev
  have HB := hide hb
  clear hs' hB hb HS
  go_wp2_with fail
  go_ret
  exact ⟨rfl, unhide HB⟩

/-- The chapter's batch, and its bytes. -/
def exRows : List (List UInt8) := [[97, 98]]
def exB4 : List UInt8 := bput exRows
theorem exB4_len : exB4.length = 22 := by decide +kernel
theorem exRows_ok : okRows exRows := ⟨by decide, by decide⟩
theorem exB4_err : bputErr exRows = 0 := bputErr_zero.2 exRows_ok
theorem exB4_of : bputOf exRows = exB4 := if_pos exB4_err
theorem ex_whole : ScanIs exB4 [exRows] 22 0 := by
  have h := scan_behind (l := [exRows]) (fun r hr => by rw [List.mem_singleton.1 hr]; exact exRows_ok) scan_nil
  rw [bputs_one, List.append_nil, Nat.add_zero] at h
  rw [show (bput exRows).length = 22 from exB4_len] at h
  exact h
theorem ex_torn : ScanIs (exB4.take 21) [] 0 32 := scan_part exRows_ok (by decide) (by rw [show (bput exRows).length = 22 from exB4_len]; decide)
theorem ex_twice : ScanIs (exB4 ++ exB4 ++ [1]) [exRows, exRows] 44 32 := by
  have h1 : ScanIs [1] [] 0 32 := by
    have e : takeErr [1] = 32 := by decide +kernel
    have s : AllIs [1] [] 0 32 := by have := AllIs.stop (b := [1]) (by simp) (by rw [e]; decide); rwa [e] at this
    exact ⟨[], 0, 32, s, rfl⟩
  have h := scan_behind (l := [exRows, exRows]) (fun r hr => by
    have : r = exRows := by simpa using hr
    rw [this]; exact exRows_ok) h1
  have e : bputs [exRows, exRows] = exB4 ++ exB4 := by
    have := bputs_snoc [exRows] exRows
    rw [bputs_one] at this
    exact this
  rw [e, List.length_append, exB4_len] at h
  exact h
/-- A commit alone. -/
def exC : List UInt8 := (commit 0).put
theorem exC_len : exC.length = 11 := by decide +kernel
theorem ex_commit : ScanIs exC [] 0 34 := by
  obtain ⟨ss, m, x, hA⟩ := AllIs.some exC
  refine ⟨ss, m, x, hA, ?_⟩
  have hp : exC = puts [commit 0] ++ [] := by rw [puts_one, List.append_nil]; rfl
  rw [hp] at hA
  obtain ⟨ts, _, e1, _, _⟩ := AllIs.behind (rs := [commit 0]) (fun r hr => by rw [List.mem_singleton.1 hr]; exact commit_right 0) hA
  rw [e1]
  have hk : (commit 0).k ≠ 1 := (by decide : (2 : UInt8) ≠ 1)
  show scanGo _ (commit 0 :: ts) [] [] 0 0 = _
  rw [scanGo, if_neg hk, if_pos (.inl rfl)]
theorem ex_cut {rows : List (List UInt8)} (h : CutIs [] rows) : rows = [[]] := by
  have h2 : CutIs [] [[]] := ⟨[], [], rfl, rfl, fun x hx => (by cases hx), by decide, .inr rfl⟩
  exact h.same h2
end Go.Proofs.Ytbbglgfgelnncaa
