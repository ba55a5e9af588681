/- What the statements' own helpers (foremanlow) do with bytes; records in memory. No statement of the seat is proved here. -/
import Derived.Test.YtbbglgfgelnncaaLowSame
import Derived.Test.YtbbglgfgelnncaaRecMath
namespace Go.Proofs.Ytbbglgfgelnncaa
open Go.RowKit

set_option maxHeartbeats 400000 in
theorem low_anew (u : Value) (bs : List UInt8) (w : World) (h : Bytes w u bs) (hl : bs.length ≤ 1048576) : Calls Try.prog 15 #[u] w fun e w' => ∃ r, e = .returned r ∧ FreshO w w' r bs := by
  obtain ⟨ti, hti, hz0, hz1, hz2⟩ := infoByte
  have HO := hide (own_nil w)
  have HU := hide (h.alloc (.cells #[] 5))
  have HL := hide hl
  clear h hl
  go_enter Try.func15, Try.ntmps15
  go_wp2_with (at_builtin; refine wpList_append_bytes _ rfl _ _ 23 rfl 5 ti (.int .u8 0) Try.underlying23 hti hz0 hz1 hz2 rfl _ [] rfl (unhide HO) _ bs rfl (unhide HU) (by have := unhide HL; simp; omega) ?_)
  rintro v' w1 r1 r2 r3
  have r1 : w1.ownsRow 0 5 1 v' bs.length (bs.map bv) := by simpa using r1
  obtain ⟨hb, hv⟩ := grown_below ((Below.refl _ w).alloc (Nat.le_refl _) _) (fun k hk => by simp [Value.ownBlock] at hk; omega) r2 (r3.imp id fun ⟨k, e, hle⟩ => ⟨k, e, by simpa using hle⟩)
  have HF : Hid (FreshO w w1 v' bs) := ⟨⟨bytes_of_owns r1, fun k hk => ⟨hv k hk, (r1.lt k hk).2⟩, hb⟩, r1⟩
  clear r1 r2 r3 hb hv
  go_wp2
  go_ret
  exact ⟨v', rfl, unhide HF⟩

/-- Are two records the same? -/
def sameRec (r s : RecD) : Bool := decide (r.k = s.k) && decide (r.d = s.d)
theorem sameRec_iff (r s : RecD) : sameRec r s = true ↔ r = s := by
  unfold sameRec
  rw [Bool.and_eq_true, decide_eq_true_iff, decide_eq_true_iff]
  constructor
  · rintro ⟨h1, h2⟩; cases r; cases s; simp_all
  · rintro rfl; exact ⟨rfl, rfl⟩

/-- A row of records in memory. -/
def RecsAt (w : World) (u : Value) (rs : List RecD) : Prop := ((∃ a c, u = .slice a 0 c) ∧ rs = []) ∨ ∃ b o c, u = .slice (some ⟨b, o, none⟩) rs.length c ∧ rs.length ≤ c ∧
  ∀ i, i < rs.length → ∃ a n c', w.cell? ⟨b, o + 2 * i, none⟩ = some (.int .u8 ((rs.getD i ⟨0, []⟩).k.toNat : Nat)) ∧ w.cell? ⟨b, o + 2 * i + 1, none⟩ = some (.slice a n c') ∧ Bytes w (.slice a n c') (rs.getD i ⟨0, []⟩).d

theorem RecsAt.form {w : World} {u : Value} {rs : List RecD} (h : RecsAt w u rs) : ∃ a c, u = .slice a rs.length c ∧ rs.length ≤ c := by
  rcases h with ⟨⟨a, c, rfl⟩, rfl⟩ | ⟨b, o, c, rfl, hl, _⟩
  · exact ⟨_, _, rfl, Nat.zero_le _⟩
  · exact ⟨_, _, rfl, hl⟩
theorem RecsAt.at {w : World} {a : Option Addr} {n c : Nat} {rs : List RecD} (h : RecsAt w (.slice a n c) rs) {i : Nat} (hi : i < n) (hl : rs.length = n) : ∃ b o a' n' c', a = some ⟨b, o, none⟩ ∧ w.cell? ⟨b, o + 2 * i, none⟩ = some (.int .u8 ((rs.getD i ⟨0, []⟩).k.toNat : Nat)) ∧ w.cell? ⟨b, o + 2 * i + 1, none⟩ = some (.slice a' n' c') ∧ Bytes w (.slice a' n' c') (rs.getD i ⟨0, []⟩).d := by
  rcases h with ⟨_, rfl⟩ | ⟨b, o, c', hv, _, hr⟩
  · simp at hl; omega
  · simp only [Value.slice.injEq] at hv
    obtain ⟨rfl, _, rfl⟩ := hv
    obtain ⟨a', n', c'', h1, h2, h3⟩ := hr i (by omega)
    exact ⟨b, o, a', n', c'', rfl, h1, h2, h3⟩
theorem RecsAt.later {w w' : World} {u : Value} {rs : List RecD} (h : RecsAt w u rs) (hb : Below w.heap.size w w') : RecsAt w' u rs := by
  rcases h with h | ⟨b, o, c, hv, hl, hr⟩
  · exact .inl h
  · refine .inr ⟨b, o, c, hv, hl, fun i hi => ?_⟩
    obtain ⟨a', n', c', h1, h2, h3⟩ := hr i hi
    refine ⟨a', n', c', ?_, ?_, h3.kept fun k _ hk => hb.block k hk⟩
    · rw [hb.cell (p := ⟨b, o + 2 * i, none⟩) (World.block_lt_of_cell? _ _ h1)]; exact h1
    · rw [hb.cell (p := ⟨b, o + 2 * i + 1, none⟩) (World.block_lt_of_cell? _ _ h2)]; exact h2
end Go.Proofs.Ytbbglgfgelnncaa
