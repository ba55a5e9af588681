/- What the functions of package disk on one segment or one slot do, and bytes.Clone, each by a walk over its body. No statement of the seat is proved here. -/
import Derived.Test.YtoabpjdpdcpdlaaLeaf
namespace Go.Proofs.Ytoabpjdpdcpdlaa
open Go.RowKit

theorem run_equalIn_bytes_nil {P : Program} (w : World) (d : Nat) (t e : TypeId) (a : Option Addr) (n c n' c' : Nat) (h : P.underlying t = some (.slice e)) :
    (Op.equalIn (d + 1) t (.slice a n c) (.slice none n' c')).run P w = .ok a.isNone w := by
  cases a <;> simp [Op.equalIn, run_underlying h]

theorem run_eql_bytes_nil {P : Program} (w : World) (t e : TypeId) (a : Option Addr) (n c n' c' : Nat) (h : P.underlying t = some (.slice e)) :
    (binOp .eql t (.slice a n c) (.slice none n' c')).run P w = .ok (.bool a.isNone) w := by
  simp only [binOp]
  simp [Op.equal, Op.maxDepth, run_equalIn_bytes_nil w 9999 t e a n c n' c' h]

set_option maxHeartbeats 400000 in
theorem clone_any (u : Value) (bs : List UInt8) (w : World) (h : Bytes w u bs) (hl : bs.length ≤ 1048576) : Calls Try.prog 53 #[u] w fun e w' => ∃ r, e = .returned r ∧ Bytes w' r bs ∧ (∀ k, r.ownBlock = some k → w.heap.size ≤ k ∧ k < w'.heap.size) ∧ Below w.heap.size w w' := by
  have hnil := fun a l c => run_eql_bytes_nil (P := Try.prog) w 25 5 a l c 0 0 Try.underlying25
  rcases h with ⟨rfl, rfl⟩ | ⟨ad, c, rfl, h1, h2, hr⟩
  · go_enter Try.func53, Try.ntmps53
    go_wp2
    go_ret
    exact ⟨.slice none 0 0, rfl, .inl ⟨rfl, rfl⟩, fun k hk => (nomatch hk), Below.refl _ _⟩
  · obtain ⟨i, hi, hz0, hz1, hz2⟩ := infoByte
    have hown : (w.alloc (.cells #[] 5)).ownsRow 0 5 1 (.slice (some ⟨w.heap.size, 0, none⟩) 0 0) ([] : List UInt8).length (([] : List UInt8).map bv) :=
      ⟨by simp, .inr ⟨w.heap.size, 0, #[], rfl, Nat.zero_le _, heap_alloc_new w _, Nat.le_refl _, by decide, rfl, by simp⟩⟩
    have hb : Bytes (w.alloc (.cells #[] 5)) (.slice (some ad) bs.length c) bs := Bytes.alloc (.inr ⟨ad, c, rfl, h1, h2, hr⟩) _
    have HO := hide hown
    have HB := hide hb
    clear hown hb hr
    go_enter Try.func53, Try.ntmps53
    go_wp2_with (at_builtin; refine wpList_append_bytes _ rfl _ _ 25 rfl 5 i (.int .u8 0) Try.underlying25 hi hz0 hz1 hz2 rfl _ [] rfl (unhide HO) _ bs rfl (unhide HB) (by simp; omega) ?_)
    rintro v' w' r1 r2 r3
    go_wp2
    go_ret
    refine ⟨v', rfl, bytes_of_owns r1, fun k hk => ⟨?_, (r1.lt k hk).2⟩, ?_⟩
    · rcases r3 with r3 | ⟨k', r3, hle⟩
      · rw [r3] at hk; simp [Value.ownBlock] at hk; omega
      · rw [r3] at hk; cases hk; omega
    · exact ((Below.refl _ _).alloc (Nat.le_refl _) _).grown r2 (by simp) (fun k hk => by simp [Value.ownBlock] at hk; omega)

section
variable {w : World} {p : Nat} {D : Nat → Prop} {v : Nat → Value} {A : AD}

/-- The slice of a segment, written out. -/
theorem DiskIs.slice (h : DiskIs w p D v A) (i : Nat) (hi : i < 2) : ∃ a c, v i = .slice a (A.x i).length c ∧ (A.x i).length ≤ c := by
  rcases (h.row i hi).2 with ⟨hv, hn⟩ | ⟨g, cap, cur, hv, _, _, hle, _⟩
  · exact ⟨none, 0, by rw [hv, hn], by omega⟩
  · exact ⟨_, cap, hv, hle⟩

set_option maxHeartbeats 400000 in
theorem segSync_any (h : DiskIs w p D v A) (i : Nat) (hi : i < 2) : Calls Try.prog 63 #[.pointer (some ⟨p, 2 + 2 * i, none⟩)] w fun e w' => e = .returned (.tuple #[]) ∧ w' = w.setCell ⟨p, 3 + 2 * i, none⟩ (.int .i64 (A.x i).length) := by
  have hd := h.dat i hi
  obtain ⟨a, c, hv, _⟩ := h.slice i hi
  rw [hv] at hd
  have hs := h.saf i hi
  have hf := h.frz (3 + 2 * i)
  have e1 : 2 + 2 * i + 1 = 3 + 2 * i := by omega
  clear h hv
  go_enter Try.func63, Try.ntmps63
  go_wp2
  go_end0
  exact ⟨rfl, rfl⟩

set_option maxHeartbeats 400000 in
theorem cut_any (h : DiskIs w p D v A) (i : Nat) (hi : i < 2) (m : Int) (n : Nat) (hm : m = n) (hn : n ≤ (A.x i).length) :
    Calls Try.prog 61 #[.pointer (some ⟨p, 2 + 2 * i, none⟩), .int .i64 m] w fun e w' => e = .returned (.tuple #[]) ∧ Now D p { A with x := upd A.x i ((A.x i).take n), safe := upd A.safe i (min (A.safe i) n) } w w' := by
  have hd := h.dat i hi
  have hs := h.saf i hi
  have hf := h.frz (2 + 2 * i)
  have hf2 := h.frz (3 + 2 * i)
  have e1 : 2 + 2 * i + 1 = 3 + 2 * i := by omega
  obtain ⟨a, c, hv, hle⟩ := h.slice i hi
  rw [hv] at hd
  have HV := hide hv
  have HD := hide h
  clear h hv
  subst hm
  go_enter Try.func61, Try.ntmps61
  go_wp2
  all_goals
    go_end0
    refine ⟨rfl, D, _, (unhide HD).cutTo i hi n hn (unhide HV) _ (by omega), ?_⟩
    exact ((Step.refl _ _).setCell (p := ⟨p, 2 + 2 * i, none⟩) (unhide HD).own _).setCell (p := ⟨p, 3 + 2 * i, none⟩) (unhide HD).own _
end
end Go.Proofs.Ytoabpjdpdcpdlaa
