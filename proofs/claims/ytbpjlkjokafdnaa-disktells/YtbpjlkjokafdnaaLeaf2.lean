/- What the functions of package disk on one segment or one slot do, and bytes.Clone, each by a walk over its body. No statement of the seat is proved here. -/
import Derived.Test.YtbpjlkjokafdnaaLeaf
namespace Go.Proofs.Ytbpjlkjokafdnaa
open Go.RowKit

theorem hide {q : Prop} (h : q) : Hid q := h
theorem unhide {q : Prop} (h : Hid q) : q := h

theorem run_equalIn_bytes_nil {P : Program} (w : World) (d : Nat) (t e : TypeId) (a : Option Addr) (n c n' c' : Nat) (h : P.underlying t = some (.slice e)) :
    (Op.equalIn (d + 1) t (.slice a n c) (.slice none n' c')).run P w = .ok a.isNone w := by
  cases a <;> simp [Op.equalIn, run_underlying h]

theorem run_eql_bytes_nil {P : Program} (w : World) (t e : TypeId) (a : Option Addr) (n c n' c' : Nat) (h : P.underlying t = some (.slice e)) :
    (binOp .eql t (.slice a n c) (.slice none n' c')).run P w = .ok (.bool a.isNone) w := by
  simp only [binOp]
  simp [Op.equal, Op.maxDepth, run_equalIn_bytes_nil w 9999 t e a n c n' c' h]

set_option maxHeartbeats 400000 in
theorem same_any (u1 u2 : Value) (b1 b2 : List UInt8) (w : World) (h1 : Bytes w u1 b1) (h2 : Bytes w u2 b2) : Calls Try.prog 18 #[u1, u2] w fun e w' => e = .returned (.bool (decide (b1 = b2))) ∧ w' = w := by
  have c1 := run_convert_bytes (P := Try.prog) w 28 9 5 Try.underlying28 Try.underlying5 Try.underlying9 u1 b1 h1
  have c2 := run_convert_bytes (P := Try.prog) w 28 9 5 Try.underlying28 Try.underlying5 Try.underlying9 u2 b2 h2
  have e0 : ((⟨b1.toArray⟩ : ByteArray).toList == (⟨b2.toArray⟩ : ByteArray).toList) = decide (b1 = b2) := by
    rw [ByteArray.toList_eq, ByteArray.toList_eq, Bool.eq_iff_iff]; simp
  have HE : Hid (((⟨b1.toArray⟩ : ByteArray).toList == (⟨b2.toArray⟩ : ByteArray).toList) = decide (b1 = b2)) := e0
  clear e0 h1 h2
  generalize (⟨b1.toArray⟩ : ByteArray) = s1 at *
  generalize (⟨b2.toArray⟩ : ByteArray) = s2 at *
  go_enter Try.func18, Try.ntmps18
  go_wp2
  go_ret
  exact ⟨ret_bool HE.out, rfl⟩

set_option maxHeartbeats 400000 in
theorem clone_any (u : Value) (bs : List UInt8) (w : World) (h : Bytes w u bs) (hl : bs.length ≤ 1048576) : Calls Try.prog 41 #[u] w fun e w' => ∃ r, e = .returned r ∧ Bytes w' r bs ∧ (∀ k, r.ownBlock = some k → w.heap.size ≤ k ∧ k < w'.heap.size) ∧ Below w.heap.size w w' := by
  have hnil := fun a l c => run_eql_bytes_nil (P := Try.prog) w 28 5 a l c 0 0 Try.underlying28
  rcases h with ⟨rfl, rfl⟩ | ⟨ad, c, rfl, h1, h2, hr⟩
  · go_enter Try.func41, Try.ntmps41
    go_wp2
    go_ret
    exact ⟨.slice none 0 0, rfl, .inl ⟨rfl, rfl⟩, fun k hk => (nomatch hk), Below.refl _ _⟩
  · obtain ⟨i, hi, hz0, hz1, hz2⟩ := infoByte
    have hown : (w.alloc (.cells #[] 5)).ownsRow 0 5 1 (.slice (some ⟨w.heap.size, 0, none⟩) 0 0) ([] : List UInt8).length (([] : List UInt8).map bv) :=
      ⟨by simp, .inr ⟨w.heap.size, 0, #[], rfl, Nat.zero_le _, heap_alloc_new w _, Nat.le_refl _, by decide, rfl, by simp⟩⟩
    have hb : Bytes (w.alloc (.cells #[] 5)) (.slice (some ad) bs.length c) bs := Bytes.alloc (.inr ⟨ad, c, rfl, h1, h2, hr⟩) _
    have HO := hide hown
    have HB := hide hb
    clear hown hb hr
    go_enter Try.func41, Try.ntmps41
    go_wp2_with (at_builtin; refine wpList_append_bytes _ rfl _ _ 28 rfl 5 i (.int .u8 0) Try.underlying28 hi hz0 hz1 hz2 rfl _ [] rfl (unhide HO) _ bs rfl (unhide HB) (by simp; omega) ?_)
    rintro v' w' r1 r2 r3
    go_wp2
    go_ret
    refine ⟨v', rfl, bytes_of_owns r1, fun k hk => ⟨?_, (r1.lt k hk).2⟩, ?_⟩
    · rcases r3 with r3 | ⟨k', r3, hle⟩
      · rw [r3] at hk; simp [Value.ownBlock] at hk; omega
      · rw [r3] at hk; cases hk; omega
    · exact ((Below.refl _ _).alloc (Nat.le_refl _) _).grown r2 (by simp) (fun k hk => by simp [Value.ownBlock] at hk; omega)

section
variable {w : World} {p : Nat} {D : Nat → Prop} {v : Nat → Value} {A : AD}

/-- The slice of a segment, written out. -/
theorem DiskIs.slice (h : DiskIs w p D v A) (i : Nat) (hi : i < 2) : ∃ a c, v i = .slice a (A.x i).length c ∧ (A.x i).length ≤ c := by
  rcases (h.row i hi).2 with ⟨hv, hn⟩ | ⟨g, cap, cur, hv, _, _, hle, _⟩
  · exact ⟨none, 0, by rw [hv, hn], by omega⟩
  · exact ⟨_, cap, hv, hle⟩

set_option maxHeartbeats 400000 in
theorem segSync_any (h : DiskIs w p D v A) (i : Nat) (hi : i < 2) : Calls Try.prog 48 #[.pointer (some ⟨p, 2 + 2 * i, none⟩)] w fun e w' => e = .returned (.tuple #[]) ∧ w' = w.setCell ⟨p, 3 + 2 * i, none⟩ (.int .i64 (A.x i).length) := by
  have hd := h.dat i hi
  obtain ⟨a, c, hv, _⟩ := h.slice i hi
  rw [hv] at hd
  have hs := h.saf i hi
  have hf := h.frz (3 + 2 * i)
  have e1 : 2 + 2 * i + 1 = 3 + 2 * i := by omega
  clear h hv
  go_enter Try.func48, Try.ntmps48
  go_wp2
  go_end0
  exact ⟨rfl, rfl⟩

set_option maxHeartbeats 400000 in
theorem grow_any (h : DiskIs w p D v A) (i : Nat) (hi : i < 2) (u : Value) (bs : List UInt8) (hu : Bytes w u bs) (hroom : ((A.x i).length : Int) + bs.length + (A.x (1 - i)).length ≤ A.cap) :
    Calls Try.prog 45 #[.pointer (some ⟨p, 2 + 2 * i, none⟩), u] w fun e w' => e = .returned (.tuple #[]) ∧ Now D p { A with x := upd A.x i (A.x i ++ bs) } w w' := by
  have hd := h.dat i hi
  have hf := h.frz (2 + 2 * i)
  have hcap := h.ok.cap
  obtain ⟨j, hj, hz0, hz1, hz2⟩ := infoByte
  have HO := hide (h.row i hi)
  have HU := hide hu
  have HD := hide h
  clear h hu
  go_enter Try.func45, Try.ntmps45
  go_wp2_with (at_builtin; refine wpList_append_bytes _ rfl _ _ 28 rfl 5 j (.int .u8 0) Try.underlying28 hj hz0 hz1 hz2 rfl _ (A.x i) rfl (unhide HO) _ bs rfl (unhide HU) (by omega) ?_)
  rintro v' w' r1 r2 r3
  rw [← List.length_append, ← List.map_append] at r1
  have hnp : (v i).ownBlock ≠ some p := fun e => ((unhide HD).rowD i p hi e).2 rfl
  have hbp : w'.heap[p]? = w.heap[p]? := r2.block p ((unhide HD).lt p (unhide HD).own) (fun e => hnp e.symm)
  have hd' : w'.cell? ⟨p, 2 + 2 * i, none⟩ = some (v i) := (World.cell?_of_block (a := ⟨p, 2 + 2 * i, none⟩) hbp).trans hd
  have hf' : w'.frozen? ⟨p, 2 + 2 * i, none⟩ = false := (World.frozen?_of_block (a := ⟨p, 2 + 2 * i, none⟩) hbp).trans hf
  have HF := hide (unhide HD |>.setDat i hi r2 v' (A.x i ++ bs) r1 (r3.imp id id |> .inr) (by simp; have := (unhide HD).ok.safe i hi; omega) (by simp; omega))
  have HS : Hid (Step D (fun k => D k ∨ v'.ownBlock = some k) w (w'.setCell ⟨p, 2 + 2 * i, none⟩ v')) := by
    have h0 : Step D D w w' := ⟨r2.os, r2.tape, r2.output, r2.size, fun k hk hn => r2.block k hk (fun e => hn ((unhide HD).rowD i k hi e.symm).1), fun _ h => .inl h⟩
    refine ((h0.setCell (p := ⟨p, 2 + 2 * i, none⟩) (unhide HD).own v').owns fun k hk => ?_)
    rcases hk with hk | hk
    · exact .inl hk
    · rcases r3 with r3 | ⟨k', r3, hle⟩
      · rw [r3] at hk; exact .inl ((unhide HD).rowD i k hi hk).1
      · rw [r3] at hk; cases hk; exact .inr hle
  obtain ⟨a', n', c', hv'⟩ : ∃ a' n' c', v' = .slice a' n' c' := by
    rcases r1.2 with ⟨h, _⟩ | ⟨_, _, _, h, _⟩
    · exact ⟨_, _, _, h⟩
    · exact ⟨_, _, _, h⟩
  subst hv'
  clear r1 r2 r3 hbp hnp HO HU hd hf
  go_wp2
  go_end0
  exact ⟨rfl, _, _, unhide HF, unhide HS⟩

set_option maxHeartbeats 400000 in
theorem cut_any (h : DiskIs w p D v A) (i : Nat) (hi : i < 2) (m : Int) (n : Nat) (hm : m = n) (hn : n ≤ (A.x i).length) :
    Calls Try.prog 53 #[.pointer (some ⟨p, 2 + 2 * i, none⟩), .int .i64 m] w fun e w' => e = .returned (.tuple #[]) ∧ Now D p { A with x := upd A.x i ((A.x i).take n), safe := upd A.safe i (min (A.safe i) n) } w w' := by
  have hd := h.dat i hi
  have hs := h.saf i hi
  have hf := h.frz (2 + 2 * i)
  have hf2 := h.frz (3 + 2 * i)
  have e1 : 2 + 2 * i + 1 = 3 + 2 * i := by omega
  obtain ⟨a, c, hv, hle⟩ := h.slice i hi
  rw [hv] at hd
  have HV := hide hv
  have HD := hide h
  clear h hv
  subst hm
  go_enter Try.func53, Try.ntmps53
  go_wp2
  all_goals
    go_end0
    refine ⟨rfl, D, _, (unhide HD).cutTo i hi n hn (unhide HV) _ (by omega), ?_⟩
    exact ((Step.refl _ _).setCell (p := ⟨p, 2 + 2 * i, none⟩) (unhide HD).own _).setCell (p := ⟨p, 3 + 2 * i, none⟩) (unhide HD).own _
end
end Go.Proofs.Ytbpjlkjokafdnaa
