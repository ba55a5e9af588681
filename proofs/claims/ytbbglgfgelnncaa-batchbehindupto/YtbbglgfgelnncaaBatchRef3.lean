/- The document's batches (foremanref04): how bytes are cut. No statement of the seat is proved here. -/
import Derived.Test.YtbbglgfgelnncaaBatchRef2
namespace Go.Proofs.Ytbbglgfgelnncaa
open Go.RowKit

/-- Bytes in rows of 4096, the last one as long as what is left. -/
def CutIs (b : List UInt8) (rows : List (List UInt8)) : Prop := ∃ out last, rows = out ++ [last] ∧ b = out.flatten ++ last ∧ (∀ x ∈ out, x.length = 4096) ∧ last.length ≤ 4096 ∧ (last ≠ [] ∨ out = [])
theorem flat_len {out : List (List UInt8)} (h : ∀ x ∈ out, x.length = 4096) : out.flatten.length = 4096 * out.length := by
  induction out with
  | nil => rfl
  | cons x out ih =>
    rw [List.flatten_cons, List.length_append, h x (List.mem_cons_self ..), ih fun y hy => h y (List.mem_cons_of_mem _ hy), List.length_cons]
    omega
theorem flat_inj : ∀ {out out' : List (List UInt8)} {last last' : List UInt8}, (∀ x ∈ out, x.length = 4096) → (∀ x ∈ out', x.length = 4096) → out.length = out'.length → out.flatten ++ last = out'.flatten ++ last' → out = out' ∧ last = last'
  | [], [], _, _, _, _, _, h => ⟨rfl, h⟩
  | x :: out, y :: out', last, last', h1, h2, hl, h => by
    rw [List.flatten_cons, List.flatten_cons, List.append_assoc, List.append_assoc] at h
    have hx := h1 x (List.mem_cons_self ..)
    have hy := h2 y (List.mem_cons_self ..)
    obtain ⟨rfl, h3⟩ := List.append_inj h (by rw [hx, hy])
    obtain ⟨rfl, h4⟩ := flat_inj (fun z hz => h1 z (List.mem_cons_of_mem _ hz)) (fun z hz => h2 z (List.mem_cons_of_mem _ hz)) (by simpa using hl) h3
    exact ⟨rfl, h4⟩
theorem CutIs.same {b : List UInt8} {rows rows' : List (List UInt8)} (h : CutIs b rows) (h' : CutIs b rows') : rows = rows' := by
  obtain ⟨out, last, rfl, e1, h1, h2, h3⟩ := h
  obtain ⟨out', last', rfl, e2, g1, g2, g3⟩ := h'
  have l1 := congrArg List.length e1
  have l2 := congrArg List.length e2
  rw [List.length_append, flat_len h1] at l1
  rw [List.length_append, flat_len g1] at l2
  have p1 : 0 < last.length ∨ out.length = 0 := h3.imp (fun e => List.length_pos_iff.2 e) (fun e => by rw [e]; rfl)
  have p2 : 0 < last'.length ∨ out'.length = 0 := g3.imp (fun e => List.length_pos_iff.2 e) (fun e => by rw [e]; rfl)
  have hl : out.length = out'.length := by omega
  obtain ⟨rfl, rfl⟩ := flat_inj h1 g1 hl (e1.symm.trans e2)
  rfl

set_option maxRecDepth 100000 in
set_option maxHeartbeats 4000000 in
theorem refCut_any (a : Option Addr) (n c : Nat) (b : List UInt8) (w : World) (h : Bytes w (.slice a n c) b) (hl : n ≤ 1048576) : Calls Try.prog 21 #[.slice a n c] w fun e w' => ∃ v rows, e = .returned v ∧ CutIs b rows ∧ RowsO w v rows w' ∧ Below w.heap.size w w' := by
  have HBL := hide (bytes_len h).1
  have HH := hide h
  clear h
  go_enter Try.func21, Try.ntmps21
  go_wp2_with fail
  go_loopw [0, 3] (fun vb vk W => ∃ (sa : Option Addr) (sn sc : Nat) (out : List (List UInt8)) (rest : List UInt8), vb = .slice sa sn sc ∧ Bytes w (.slice sa sn sc) rest ∧ b = out.flatten ++ rest ∧ (∀ x ∈ out, x.length = 4096) ∧ (rest ≠ [] ∨ out = []) ∧ sn ≤ n ∧ out.length ≤ 1048576 - sn ∧ ScanSt w (.slice none 0 0) [] vk out W) (fun vb _ _ => match vb with | .slice _ k _ => k | _ => 0)
  case atStart => exact ⟨a, n, c, [], b, rfl, unhide HH, rfl, fun x hx => (by cases hx), .inr rfl, Nat.le_refl _, Nat.zero_le _, ScanSt.start w⟩
  case round =>
    obtain ⟨sa, sn, sc, out, rest, rfl, hB, hb, ho, hne, hsn, hol, hS⟩ := hrel
    have HB := hide hB
    have HSL := hide (bytes_len hB).1
    have HBE := hide hb
    have HO := hide ho
    have HNE := hide hne
    have HS := hide hS
    clear hB hb ho hne hS
    by_cases hgt : 4096 < sn
    · have hgt' : (sn : Int) > 4096 := by omega
      obtain ⟨ya, yc, BY, q, q'⟩ := slice_to (h := 4096) (unhide HB) (by omega)
      obtain ⟨za, zc, BZ, p, p'⟩ := slice_from (l := 4096) (unhide HB) (by omega)
      replace q : ∀ W : World, (Instr.slice 23 (.slice sa sn sc) none (some (.int .i64 4096)) none).run Try.prog W = .ok (.slice ya 4096 yc) W := fun W => q W
      replace q' : ∀ W : World, (Instr.sliceAt 23 (.slice sa sn sc) none (some (.int .i64 4096)) none).run Try.prog W = .ok (.slice ya 4096 yc) W := fun W => q' W
      replace p : ∀ W : World, (Instr.slice 23 (.slice sa sn sc) (some (.int .i64 4096)) none none).run Try.prog W = .ok (.slice za (sn - 4096) zc) W := fun W => p W
      replace p' : ∀ W : World, (Instr.sliceAt 23 (.slice sa sn sc) (some (.int .i64 4096)) none none).run Try.prog W = .ok (.slice za (sn - 4096) zc) W := fun W => p' W
      have HY := hide BY
      have HZ := hide BZ
      have hsm : ∃ sm, sm = sn - 4096 := ⟨_, rfl⟩
      obtain ⟨sm, hsm⟩ := hsm
      rw [← hsm] at p p' HZ
      have HSM := hide hsm
      clear BY BZ hsm
      have HS1 := hide ((unhide HS).alloc (.cells #[.slice ya 4096 yc] 23))
      obtain ⟨ka, kc, ek⟩ := (unhide HS).rows.form
      subst ek
      go_wp2_with (at_builtin; refine wpList_append_kept rfl _ _ rfl (.slice none 0 0) _ (.slice ya 4096 yc) _ _ (rest.take 4096) wr.heap.size 1 rfl (unhide HS1) rfl (by simp) rfl (unhide HY) (by omega) ?_)
      rintro v9 w9 hS9
      have HS9 := hide hS9
      clear hS9 HS HS1
      go_wp2_with fail
      have hsme := unhide HSM
      have hrl := unhide HSL
      refine ⟨⟨za, sm, zc, out ++ [rest.take 4096], rest.drop 4096, rfl, unhide HZ, ?_, fun x hx => ?_, .inl ?_, by omega, by rw [List.length_append, List.length_singleton]; omega, unhide HS9⟩, by show sm < sn; omega⟩
      · rw [List.flatten_append, unhide HBE]
        simp
      · rcases List.mem_append.1 hx with hx | hx
        · exact unhide HO x hx
        · rw [List.mem_singleton] at hx
          rw [hx, List.length_take]
          omega
      · intro e
        have := congrArg List.length e
        rw [List.length_drop, List.length_nil] at this
        omega
    · have hgt' : ¬ (sn : Int) > 4096 := by omega
      have HCI : Hid (CutIs b (out ++ [rest])) := ⟨out, rest, rfl, unhide HBE, unhide HO, by rw [unhide HSL]; omega, unhide HNE⟩
      have hcase : ((sn : Int) > 0) ∨ (¬ (sn : Int) > 0 ∧ out = []) := by
        by_cases h0 : 0 < sn
        · exact .inl (by omega)
        · refine .inr ⟨by omega, ?_⟩
          rcases unhide HNE with e | e
          · exact absurd (List.eq_nil_of_length_eq_zero (by rw [unhide HSL]; omega)) e
          · exact e
      have HS1 := hide ((unhide HS).alloc (.cells #[.slice sa sn sc] 23))
      obtain ⟨ka, kc, ek⟩ := (unhide HS).rows.form
      subst ek
      rcases hcase with h0 | ⟨h0, rfl⟩
      · go_wp2_with (at_builtin; refine wpList_append_kept rfl _ _ rfl (.slice none 0 0) _ (.slice sa sn sc) _ _ rest wr.heap.size 1 rfl (unhide HS1) rfl (by simp) rfl (unhide HB) (by omega) ?_)
        rintro v9 w9 hS9
        have HS9 := hide hS9
        clear hS9 HS HS1
        go_wp2_with fail
        go_ret
        exact ⟨_, _, rfl, unhide HCI, (unhide HS9).rows, (unhide HS9).bb⟩
      · obtain rfl : sn = 0 := by omega
        have HS1' : Hid (ScanSt w (.slice none 0 0) [] (.slice ka 0 kc) [] (wr.alloc (.cells #[.slice sa 0 sc] 23))) := unhide HS1
        go_wp2_with (at_builtin; refine wpList_append_kept rfl _ _ rfl (.slice none 0 0) (.slice ka 0 kc) (.slice sa 0 sc) [] [] rest wr.heap.size 1 rfl (unhide HS1') rfl (by simp) rfl (unhide HB) (by simp) ?_)
        rintro v9 w9 hS9
        have HS9 := hide hS9
        clear hS9 HS HS1 HS1'
        go_wp2_with fail
        go_ret
        exact ⟨_, _, rfl, unhide HCI, (unhide HS9).rows, (unhide HS9).bb⟩
end Go.Proofs.Ytbbglgfgelnncaa
