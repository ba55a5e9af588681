/- The document's records (foremanref03): Take as a whole, All. No statement of the seat is proved here. -/
import Derived.Test.YtbbglgfgelnncaaRecAll
namespace Go.Proofs.Ytbbglgfgelnncaa
open Go.RowKit

theorem refTake_any (a : Option Addr) (n c : Nat) (b : List UInt8) (w : World) (h : Bytes w (.slice a n c) b) : Calls Try.prog 45 #[.slice a n c] w fun e w' => TookAt w b e w' := by
  by_cases hn : n < 9
  · exact refTake_short a n c b w h hn
  by_cases h1 : 4096 < le ((b.drop 5).take 4)
  · exact refTake_long a n c b w h (by omega) h1
  by_cases h2 : n < 9 + le ((b.drop 5).take 4)
  · exact refTake_torn a n c b w h (by omega) h1 h2
  by_cases h3 : sumB ((b.drop 4).take (5 + le ((b.drop 5).take 4))) = le (b.take 4)
  · obtain ⟨bb, o, rfl⟩ := byte_spot h (by omega)
    by_cases h4 : (b.getD 4 0).toNat < 1
    · exact refTake_kind0 bb o n c b w h (by omega) h1 h2 h3 h4
    by_cases h5 : 2 < (b.getD 4 0).toNat
    · exact refTake_kind2 bb o n c b w h (by omega) h1 h2 h3 h5
    exact refTake_ok bb o n c b w h (by omega) h1 h2 h3 h4 h5
  · exact refTake_check a n c b w h (by omega) h1 h2 h3

/-- What All answers, in memory. -/
def AllAt (w : World) (b : List UInt8) (e : Ending) (w' : World) : Prop := ∃ v rs m x, e = .returned (.tuple #[v, .int .i64 ((m : Nat) : Int), .int .i64 x]) ∧ AllIs b rs m x ∧ RecsO w v rs w'

theorem took_size {b : List UInt8} (h : takeErr b = 0) : 9 ≤ takeLen b ∧ takeLen b ≤ b.length := ⟨(put_take b h).2.2.2.1, (put_take b h).2.2.1⟩

set_option maxRecDepth 100000 in
set_option maxHeartbeats 4000000 in
theorem refAll_any (a : Option Addr) (n c : Nat) (b : List UInt8) (w : World) (h : Bytes w (.slice a n c) b) (hl : n ≤ 1048576) : Calls Try.prog 34 #[.slice a n c] w fun e w' => AllAt w b e w' := by
  have hbl := (bytes_len h).1
  have HBL := hide hbl
  have HH := hide h
  clear h hbl
  go_enter Try.func34, Try.ntmps34
  go_wp2_with fail
  go_loopw [5, 6] (fun v i W => ∃ (t : Nat) (rs : List RecD), t ≤ n ∧ i = .int .i64 t ∧ rs.length ≤ t ∧ RecsO w v rs W ∧ ∀ rs' n' e', AllIs (b.drop t) rs' n' e' → AllIs b (rs ++ rs') (t + n') e') (fun _ i _ => n - (intOf i).toNat)
  case atStart => exact ⟨0, [], by omega, rfl, by simp, RecsO.start w, fun rs' n' e' h => by simpa using h⟩
  case round =>
    obtain ⟨t, rs, ht, rfl, hrl, hO, hA⟩ := hrel
    have HO := hide hO
    have HA := hide hA
    have HRL := hide hrl
    clear hO hA hrl
    by_cases hlt : t < n
    · obtain ⟨s, k, B, q, q'⟩ := slice_from (l := t) (unhide HH) (by omega)
      have HB : Hid (Bytes wr (.slice s (n - t) k) (b.drop t)) := B.kept fun k _ hk => (unhide HO).bb.block k hk
      have HNE : Hid (b.drop t ≠ []) := fun e => by have := congrArg List.length e; rw [List.length_drop] at this; have := unhide HBL; simp at *; omega
      clear B
      go_wp2_with fail
      refine (refTake_any _ _ _ _ _ (unhide HB)).mono ?_
      rintro e w2 ⟨a2, n2, c2, rfl, hF⟩
      clear q q' HB
      obtain ⟨x, hx⟩ : ∃ x, x = takeErr (b.drop t) := ⟨_, rfl⟩
      obtain ⟨L, hL⟩ : ∃ L, L = takeLen (b.drop t) := ⟨_, rfl⟩
      obtain ⟨r, hr⟩ : ∃ r, r = takeRec (b.drop t) := ⟨_, rfl⟩
      rw [← hx, ← hL, ← hr]
      rw [← hr] at hF
      have HX := hide hx
      have HLn := hide hL
      have HR := hide hr
      have HO2 : Hid (RecsO w _ rs w2) := (unhide HO).later hF.1.2.2
      have HF : Hid (Own w (.slice a2 n2 c2) r.d w2) := hF.own (unhide HO).bb
      by_cases h0 : x = 0
      · have hsz := took_size (b := b.drop t) (by rw [← hx]; exact h0)
        rw [← hL, List.length_drop, unhide HBL] at hsz
        subst h0
        have g1 : IntKind.i64.wrap ((t : Int) + (L : Int)) = (t : Int) + (L : Int) := by rw [IntKind.wrap_i64]; omega
        clear hx hL hr hF HO
        go_upto_region 7 with fail
        have HO3 : Hid (RecsO w u5 rs ((w2.alloc (.cells #[.int .u8 (r.k.toNat : Nat), .slice a2 n2 c2] 49)).alloc (.cells #[.int .u8 (r.k.toNat : Nat), .slice a2 n2 c2] 49))) := ((unhide HO2).later ((Below.refl _ _).alloc (Nat.le_refl _) _)).later ((Below.refl _ _).alloc (Nat.le_refl _) _)
        have HF3 : Hid (Own w (.slice a2 n2 c2) r.d ((w2.alloc (.cells #[.int .u8 (r.k.toNat : Nat), .slice a2 n2 c2] 49)).alloc (.cells #[.int .u8 (r.k.toNat : Nat), .slice a2 n2 c2] 49))) := ((unhide HF).alloc _).alloc _
        have hx3 : (w2.alloc (.cells #[.int .u8 (r.k.toNat : Nat), .slice a2 n2 c2] 49)).heap[w2.heap.size]? = some (.cells #[.int .u8 (r.k.toNat : Nat), .slice a2 n2 c2] 49 (0, 0)) := heap_alloc_new w2 _
        generalize w2.alloc _ = w3 at *
        generalize w2.heap.size = G at *
        have HX4 : Hid ((w3.alloc (.cells #[.int .u8 (r.k.toNat : Nat), .slice a2 n2 c2] 49)).heap[w3.heap.size]? = some (.cells #[.int .u8 (r.k.toNat : Nat), .slice a2 n2 c2] 49 (0, 0))) := heap_alloc_new w3 _
        have c0 : w3.cell? ⟨G, 0, none⟩ = some (.int .u8 (r.k.toNat : Nat)) := cell_of_row _ _ 0 _ _ _ hx3
        have c1 : w3.cell? ⟨G, 1, none⟩ = some (.slice a2 n2 c2) := cell_of_row _ _ 1 _ _ _ hx3
        clear hx3 HO2 HF
        go_wp2_with (at_builtin; refine wpList_append_rec rfl _ _ rfl _ rs r a2 n2 c2 w3.heap.size _ rfl (unhide HO3) rfl (cell_of_row _ _ 0 _ _ _ (unhide HX4)) (cell_of_row _ _ 1 _ _ _ (unhide HX4)) (unhide HF3) (by have := unhide HRL; omega) ?_)
        rintro v6 w6 hO6
        have HO6 := hide hO6
        clear hO6 HO3 HF3 HX4 c0 c1
        go_wp2_with fail
        refine ⟨⟨t + L, rs ++ [r], by omega, by go_num, ?_, unhide HO6, fun rs' n' e' h' => ?_⟩, by simp [intOf]; omega⟩
        · have := unhide HRL; rw [List.length_append]; show _ + 1 ≤ _; omega
        · have := unhide HA (r :: rs') (L + n') e' (by rw [unhide HR, unhide HLn]; exact .more (unhide HNE) (unhide HX).symm (by rw [List.drop_drop, ← unhide HLn]; exact h'))
          rw [List.append_assoc, Nat.add_assoc]; exact this
      · have h0' : (x == 0) = false := beq_eq_false_iff_ne.2 h0
        have h0'' : (x != 0) = true := bne_iff_ne.2 h0
        have HX0 := hide h0
        clear hx hL hr hF HO
        go_wp2_with fail
        go_ret3
        refine ⟨_, rs, t, x, rfl, ?_, (unhide HO2).later ((Below.refl _ _).alloc (Nat.le_refl _) _)⟩
        have := unhide HA [] 0 x (by rw [unhide HX]; exact .stop (unhide HNE) (by rw [← unhide HX]; exact unhide HX0))
        simpa using this
    · have e : t = n := by omega
      subst e
      have HN := unhide HA [] 0 0 (by rw [List.drop_of_length_le (by rw [unhide HBL]; exact Nat.le_refl _)]; exact .none)
      go_wp2_with fail
      go_ret3
      exact ⟨_, rs, t, 0, rfl, by simpa using HN, unhide HO⟩
end Go.Proofs.Ytbbglgfgelnncaa
