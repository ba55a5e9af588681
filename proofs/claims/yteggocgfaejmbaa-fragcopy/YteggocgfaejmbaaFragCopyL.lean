/- FragCopy of foremanlaw09: its walk. No statement of the seat is proved here. -/
import Derived.Test.YteggocgfaejmbaaBase06
import Derived.Test.YteggocgfaejmbaaBase07
import Derived.Test.YteggocgfaejmbaaFragChg
namespace Go.Proofs.Yteggocgfaejmbaa
open Go.RowKit

theorem str_app (s t : List UInt8) : (⟨s.toArray⟩ : ByteArray) ++ ⟨t.toArray⟩ = ⟨(s ++ t).toArray⟩ := by
  apply ByteArray.ext
  rw [ByteArray.data_append]
  simp
theorem str_app1 (s : List UInt8) (c : UInt8) : (⟨s.toArray⟩ : ByteArray) ++ ⟨#[c]⟩ = ⟨(s ++ [c]).toArray⟩ := str_app s [c]

set_option maxRecDepth 100000 in
set_option maxHeartbeats 8000000 in
theorem copyLaw_any (l : List FI) (a0 : Option Addr) (n0 cp0 : Nat) (y t : Nat) (w : World) (hn : n0 = l.length) (hL : FragAt (fun _ => True) w l (.slice a0 n0 cp0)) (hy : y < 256) (ht : t < 256) :
    Calls Try.prog 6 #[.slice a0 n0 cp0, .int .u8 ((y : Nat) : Int), .int .u8 ((t : Nat) : Int)] w fun e w' => e = .returned (.bool true) ∧ Below w.heap.size w w' := by
  have HN := hide hn
  have HAA : Hid (∀ X, Below w.heap.size w X → FragAt (fun _ => True) X l (.slice a0 n0 cp0)) := fun X hX => hL.later hX
  have HAW : Hid (∀ W, Below w.heap.size w W → Calls Try.prog 10 #[] W fun e w' => e = .returned (.bool true) ∧ Below w.heap.size w w') := fun W hW => (awakeF_any W).mono fun e w' ⟨h1, h2⟩ => ⟨h1, hW.trans (h2.mono hW.size)⟩
  clear hL hn
  go_enter Try.func6, Try.ntmps6
  go_wp2_with fail
  refine (few_any l _ _ w (unhide HAA w (Below.refl _ _))).mono ?_
  rintro e w1 ⟨⟨f1, rfl, hf1⟩, hb1⟩
  have HB1 := hide hb1
  have HF1 := hide hf1
  clear hb1 hf1
  cases f1 with
  | false =>
    go_wp2_with fail
    refine (unhide HAW _ (unhide HB1)).mono ?_
    rintro e w2 ⟨rfl, hb2⟩
    have HB2 := hide hb2
    clear hb2
    go_wp2_with fail
    go_ret
    exact ⟨rfl, unhide HB2⟩
  | true =>
  have HFW : Hid (FewF l) := by first | exact unhide HF1 trivial | exact unhide HF1 rfl
  clear HF1
  by_cases hn0 : n0 = 0
  · have p1 : (((n0 : Nat) : Int) == 0) = true := by rw [beq_iff_eq]; omega
    clear hn0
    go_wp2_with fail
    refine (unhide HAW _ (unhide HB1)).mono ?_
    rintro e w2 ⟨rfl, hb2⟩
    have HB2 := hide hb2
    clear hb2
    go_wp2_with fail
    go_ret
    exact ⟨rfl, unhide HB2⟩
  have p1 : (((n0 : Nat) : Int) == 0) = false := by rw [beq_eq_false_iff_ne]; omega
  have HN0 : Hid (0 < n0 ∧ n0 ≤ 60) := ⟨by omega, by rw [unhide HN]; exact (unhide HFW).1⟩
  clear hn0
  go_upto_region 3 with fail
  clear p1
  go_wp2_with fail
  refine (fCopy_any l _ _ _ (unhide HAA _ (unhide HB1)) (by have := (unhide HFW).1; omega) (fun x hx => by have := ((unhide HFW).2 x hx).2.2.1; omega)).mono ?_
  rintro e w2 ⟨ca, n, cc, rfl, hn, hF2, hb2, hcp⟩
  obtain ⟨g, xs, A, rfl, hC⟩ := hcp (fun e => by have h1 := unhide HN; have h2 := (unhide HN0).1; rw [e] at h1; simp at h1; omega)
  obtain rfl : n = n0 := by rw [hn, unhide HN]
  have HB2 := hide ((unhide HB1).trans (hb2.mono (unhide HB1).size))
  have HC2 := hide hC
  have HG := hide (show w.heap.size ≤ g by have := hC.gn; have := (unhide HB1).size; omega)
  have HF2 := hide (hF2.wider (B' := fun _ => True) fun _ _ => trivial)
  have HG2 : Hid (g < w2.heap.size) := (hC.row.lt g rfl).2
  have HBK : Hid (∀ j b, j < l.length → (A j).1 = some b → g < b.block ∧ b.block < w2.heap.size) := fun j b hj hb => ⟨(hC.done j hj hj).new b.block (by rw [hb]; rfl), (hC.done j hj hj).lt (by rw [hb]; rfl)⟩
  clear hF2 hb2 hcp hC hn
  go_wp2_with fail
  refine (fCopy_any l _ _ _ (unhide HAA _ (unhide HB2)) (by have := (unhide HFW).1; omega) (fun x hx => by have := ((unhide HFW).2 x hx).2.2.1; omega)).mono ?_
  rintro e w3 ⟨da, n2, dc, rfl, hn2, hF3, hb3, -⟩
  obtain rfl : n2 = n := by rw [hn2, unhide HN]
  have HD3 := hide (hF3.wider (B' := fun k => w2.heap.size ≤ k) fun k hk => hk.1)
  have HB3 := hide ((unhide HB2).trans (hb3.mono (unhide HB2).size))
  have HC3 := hide ((unhide HC2).later hb3)
  have HF3 := hide ((unhide HF2).later hb3)
  have HG3 : Hid (g < w2.heap.size ∧ w2.heap.size ≤ w3.heap.size) := ⟨unhide HG2, hb3.size⟩
  clear hF3 hb3 hn2 HC2 HF2 HG2
  go_wp2_with fail
  refine (fSame_any l l _ _ _ _ _ (unhide HF3) (unhide HAA _ (unhide HB3))).mono ?_
  rintro e w4 ⟨rfl, hb4⟩
  rw [sameF_self]
  have HB4 := hide ((unhide HB3).trans (hb4.mono (unhide HB3).size))
  have HD4 := hide ((unhide HD3).later hb4)
  have HC4 := hide ((unhide HC3).later hb4)
  have HG4 : Hid (g < w2.heap.size ∧ w2.heap.size ≤ w4.heap.size) := ⟨(unhide HG3).1, Nat.le_trans (unhide HG3).2 hb4.size⟩
  clear hb4 HB3 HD3 HC3 HF3 HG3
  go_wp2_with fail
  refine (fSame_any l l _ _ _ _ _ (unhide HAA _ (unhide HB4)) (unhide HD4)).mono ?_
  rintro e w5 ⟨rfl, hb5⟩
  rw [sameF_self]
  have HB5 := hide ((unhide HB4).trans (hb5.mono (unhide HB4).size))
  have HD5 := hide ((unhide HD4).later hb5)
  have HC5 := hide ((unhide HC4).later hb5)
  have HG5 : Hid (g < w2.heap.size ∧ w2.heap.size ≤ w5.heap.size) := ⟨(unhide HG4).1, Nat.le_trans (unhide HG4).2 hb5.size⟩
  clear hb5 HB4 HD4 HC4 HG4
  go_upto_region 6 with fail
  obtain ⟨i, hi⟩ : ∃ i, i = y % n2 := ⟨_, rfl⟩
  have hmodE : ((y : Nat) : Int) % ((n2 : Nat) : Int) = ((i : Nat) : Int) := by rw [hi]; exact (Int.natCast_emod y n2).symm
  have hmodT : ((y : Nat) : Int).tmod ((n2 : Nat) : Int) = ((i : Nat) : Int) := by rw [Int.tmod_eq_emod_of_nonneg (by omega)]; exact hmodE
  have hin : i < n2 := by rw [hi]; exact Nat.mod_lt _ (unhide HN0).1
  have hp0 : ¬ ((n2 : Nat) : Int) = 0 := by have := (unhide HN0).1; omega
  have hp0b : (((n2 : Nat) : Int) == 0) = false := beq_eq_false_iff_ne.2 hp0
  have hn60 := (unhide HN0).2
  clear hi
  have hil : i < l.length := by rw [← unhide HN]; exact hin
  obtain ⟨hcl, hfz⟩ := (unhide HC5).cells hil
  have c0 := hcl.c0
  have c1 := hcl.c1
  have c2 := hcl.c2
  have c3 := hcl.c3
  have c4 := hcl.c4
  have c5 := hcl.c5
  have f0 := hfz (i * 6)
  have f1 := hfz (i * 6 + 1)
  have f2 := hfz (i * 6 + 2)
  have f3 := hfz (i * 6 + 3)
  have f4 := hfz (i * 6 + 4)
  have f5 := hfz (i * 6 + 5)
  clear hfz
  obtain ⟨x, hx⟩ : ∃ x, x = l[i] := ⟨_, rfl⟩
  rw [← hx] at hcl c0 c1 c2 c3 c4 c5
  have HX : Hid (∃ h : i < l.length, x = l[i]'h) := ⟨hil, hx⟩
  have HCL := hide hcl
  obtain ⟨z, hz⟩ : ∃ z : ByteArray, z = ⟨x.name.toArray⟩ := ⟨_, rfl⟩
  obtain ⟨zo, hzo⟩ : ∃ z : ByteArray, z = ⟨x.over.toArray⟩ := ⟨_, rfl⟩
  obtain ⟨K, hK⟩ : ∃ K, K = x.k := ⟨_, rfl⟩
  obtain ⟨wd, hwd⟩ : ∃ K, K = x.width := ⟨_, rfl⟩
  obtain ⟨qt, hqt⟩ : ∃ K, K = x.quota := ⟨_, rfl⟩
  obtain ⟨pn, hpn⟩ : ∃ K, K = x.after.length := ⟨_, rfl⟩
  obtain ⟨pa, hpa⟩ : ∃ K, K = (A i).1 := ⟨_, rfl⟩
  obtain ⟨pc, hpc⟩ : ∃ K, K = (A i).2 := ⟨_, rfl⟩
  rw [← hz] at c0
  rw [← hK] at c1
  rw [← hpn, ← hpa, ← hpc] at c2
  rw [← hzo] at c3
  rw [← hwd] at c4
  rw [← hqt] at c5
  have HEQ := hide (show z = ⟨x.name.toArray⟩ ∧ zo = ⟨x.over.toArray⟩ ∧ K = x.k ∧ wd = x.width ∧ qt = x.quota ∧ pn = x.after.length ∧ pa = (A i).1 ∧ pc = (A i).2 from ⟨hz, hzo, hK, hwd, hqt, hpn, hpa, hpc⟩)
  have HFT : Hid (x.Fits) := by show FI.Fits _; rw [hx]; exact ((unhide HC5).is i hil).2
  have HSMX : Hid (x.Small) := by show FI.Small _; rw [hx]; exact (unhide HFW).2 _ (List.getElem_mem hil)
  have HIL := hide hil
  clear hx hcl hz hzo hK hwd hqt hpn hpa hpc hil
  have HK : Hid (∀ W' : World, (∀ k, w2.heap.size ≤ k → k < w5.heap.size → W'.heap[k]? = w5.heap[k]?) → FragAt (fun _ => True) W' l (.slice da n2 dc)) := fun W' h => (unhide HD5).kept (fun k hk hlt => h k hk hlt) (fun _ _ _ => trivial)
  have HEND : Hid (∀ (W' : World) (l' : List FI), Below w.heap.size w W' → FragAt (fun _ => True) W' l' (.slice (some ⟨g, 0, none⟩) n2 cc) → l' ≠ l → FragAt (fun _ => True) W' l (.slice da n2 dc) → ∀ X, Below W'.heap.size W' X →
      (Calls Try.prog 16 #[.slice (some ⟨g, 0, none⟩) n2 cc, .slice da n2 dc] X fun e w' => e = .returned (.bool false) ∧ Below W'.heap.size W' w') ∧
      (Calls Try.prog 16 #[.slice da n2 dc, .slice (some ⟨g, 0, none⟩) n2 cc] X fun e w' => e = .returned (.bool false) ∧ Below W'.heap.size W' w') ∧
      (Calls Try.prog 16 #[.slice a0 n2 cp0, .slice da n2 dc] X fun e w' => e = .returned (.bool true) ∧ Below W'.heap.size W' w') ∧
      (Calls Try.prog 10 #[] X fun e w' => e = .returned (.bool true) ∧ Below w.heap.size w w')) := fun W' l' h1 h2 h3 h4 X hX => by
    refine ⟨(fSame_any l' l _ _ _ _ X (h2.later hX) (h4.later hX)).mono fun e w' h => ?_, (fSame_any l l' _ _ _ _ X (h4.later hX) (h2.later hX)).mono fun e w' h => ?_, (fSame_any l l _ _ _ _ X (unhide HAA X (h1.trans (hX.mono h1.size))) (h4.later hX)).mono fun e w' h => ?_, unhide HAW X (h1.trans (hX.mono h1.size))⟩
    · rw [sameF_false h3] at h; exact ⟨h.1, hX.trans (h.2.mono hX.size)⟩
    · rw [sameF_false (fun e => h3 e.symm)] at h; exact ⟨h.1, hX.trans (h.2.mono hX.size)⟩
    · rw [sameF_self] at h; exact ⟨h.1, hX.trans (h.2.mono hX.size)⟩
  clear HD5 HAA
  rcases (show t % 7 = 0 ∨ t % 7 = 1 ∨ t % 7 = 2 ∨ t % 7 = 3 ∨ t % 7 = 4 ∨ t % 7 = 5 ∨ t % 7 = 6 by omega) with h7 | h7 | h7 | h7 | h7 | h7 | h7
  · have hzz : z ++ ⟨#[122]⟩ = ⟨(x.name ++ [122]).toArray⟩ := by rw [(unhide HEQ).1]; exact str_app1 _ _
    have HZZ := hide hzz
    clear hzz
    have hzs : z.size ≤ 100 := by rw [(unhide HEQ).1, str_size]; exact (unhide HSMX).1
    go_upto_region 23 with fail
    obtain ⟨W6, hW6⟩ : ∃ W6, W6 = w5.setCell ⟨g, i * 6, none⟩ (.string (z ++ ⟨#[122]⟩)) := ⟨_, rfl⟩
    rw [← hW6]
    obtain ⟨hil, hxl⟩ := unhide HX
    obtain ⟨z1, z2, z3, z4, z5, -⟩ := unhide HEQ
    obtain ⟨q1, q2, q3, q4, q5⟩ := unhide HFT
    obtain ⟨s1, s2, s3, s4⟩ := unhide HSMX
    have hb6 : Below w.heap.size w W6 := by rw [hW6]; exact (unhide HB5).setCell (p := ⟨g, _, none⟩) (unhide HG) _
    have hd6 := unhide HK W6 (fun k h1 _ => by rw [hW6]; exact Below.heap_setCell _ _ _ _ (by have := unhide HG5; show k ≠ g; omega))
    have hF6 : FragAt (fun _ => True) W6 (l.set i { x with name := x.name ++ [122] }) (.slice (some ⟨g, 0, none⟩) n2 cc) := by
      rw [hW6, unhide HN, unhide HZZ]
      exact (unhide HC5).poke hil (by omega) (cells_set0 (unhide HCL) _) ⟨by show (x.name ++ [122]).length ≤ _; unfold maxLen; simp; omega, q2, q3, q4, q5⟩ (by show x.after = _; rw [hxl])
    have hne : l.set i { x with name := x.name ++ [122] } ≠ l := set_ne_self hil (by
      rw [← hxl]
      intro h
      have := congrArg (fun y : FI => y.name.length) h
      simp at this)
    clear z1 z2 z3 z4 z5 q1 q2 q3 q4 q5 s1 s2 s3 s4 hxl hil
    have HE := hide (unhide HEND W6 _ hb6 hF6 hne hd6)
    clear hb6 hF6 hne hd6 hW6
    go_wp2_with fail
    refine (unhide HE W6 (Below.refl _ _)).1.mono ?_
    rintro e W7 ⟨rfl, hb7⟩
    have HB7 := hide hb7
    clear hb7
    go_wp2_with fail
    refine (unhide HE W7 (unhide HB7)).2.1.mono ?_
    rintro e W8 ⟨rfl, hb8⟩
    have HB8 := hide hb8
    clear hb8
    go_wp2_with fail
    refine (unhide HE W8 (unhide HB8)).2.2.1.mono ?_
    rintro e W9 ⟨rfl, hb9⟩
    have HB9 := hide hb9
    clear hb9
    go_wp2_with fail
    refine (unhide HE W9 (unhide HB9)).2.2.2.mono ?_
    rintro e W10 ⟨rfl, hb10⟩
    have HB10 := hide hb10
    clear hb10
    go_wp2_with fail
    go_ret
    exact ⟨rfl, unhide HB10⟩
  · have HZZ : Hid ((((K : Nat) : Int) + 1) % 256 = (((K + 1) % 256 : Nat) : Int)) := by show _ = _; omega
    go_upto_region 23 with fail
    obtain ⟨W6, hW6⟩ : ∃ W6, W6 = w5.setCell ⟨g, i * 6 + 1, none⟩ (.int .u8 ((((K : Nat) : Int) + 1) % 256)) := ⟨_, rfl⟩
    rw [← hW6]
    obtain ⟨hil, hxl⟩ := unhide HX
    obtain ⟨z1, z2, z3, z4, z5, -⟩ := unhide HEQ
    obtain ⟨q1, q2, q3, q4, q5⟩ := unhide HFT
    obtain ⟨s1, s2, s3, s4⟩ := unhide HSMX
    have hb6 : Below w.heap.size w W6 := by rw [hW6]; exact (unhide HB5).setCell (p := ⟨g, _, none⟩) (unhide HG) _
    have hd6 := unhide HK W6 (fun k h1 _ => by rw [hW6]; exact Below.heap_setCell _ _ _ _ (by have := unhide HG5; show k ≠ g; omega))
    have hF6 : FragAt (fun _ => True) W6 (l.set i { x with k := (K + 1) % 256 }) (.slice (some ⟨g, 0, none⟩) n2 cc) := by
      rw [hW6, unhide HN, unhide HZZ]
      exact (unhide HC5).poke hil (by omega) (cells_set1 (unhide HCL) _) ⟨q1, by show (K + 1) % 256 < 256; omega, q3, q4, q5⟩ (by show x.after = _; rw [hxl])
    have hne : l.set i { x with k := (K + 1) % 256 } ≠ l := set_ne_self hil (by
      rw [← hxl]
      intro h
      have := congrArg (fun y : FI => y.k) h
      simp only at this
      omega)
    clear z1 z2 z3 z4 z5 q1 q2 q3 q4 q5 s1 s2 s3 s4 hxl hil
    have HE := hide (unhide HEND W6 _ hb6 hF6 hne hd6)
    clear hb6 hF6 hne hd6 hW6
    go_wp2_with fail
    refine (unhide HE W6 (Below.refl _ _)).1.mono ?_
    rintro e W7 ⟨rfl, hb7⟩
    have HB7 := hide hb7
    clear hb7
    go_wp2_with fail
    refine (unhide HE W7 (unhide HB7)).2.1.mono ?_
    rintro e W8 ⟨rfl, hb8⟩
    have HB8 := hide hb8
    clear hb8
    go_wp2_with fail
    refine (unhide HE W8 (unhide HB8)).2.2.1.mono ?_
    rintro e W9 ⟨rfl, hb9⟩
    have HB9 := hide hb9
    clear hb9
    go_wp2_with fail
    refine (unhide HE W9 (unhide HB9)).2.2.2.mono ?_
    rintro e W10 ⟨rfl, hb10⟩
    have HB10 := hide hb10
    clear hb10
    go_wp2_with fail
    go_ret
    exact ⟨rfl, unhide HB10⟩
  · obtain ⟨W5, hW5⟩ : ∃ W5, W5 = w5.alloc (.cells #[.string ⟨#[97]⟩] 9) := ⟨_, rfl⟩
    have hb5 : Below w5.heap.size w5 W5 := by rw [hW5]; exact (Below.refl _ _).alloc (Nat.le_refl _) _
    have hg5 : W5.heap[w5.heap.size]? = some (.cells #[.string ⟨[97].toArray⟩] 9 (0, 0)) := by rw [hW5]; exact heap_alloc_new _ _
    obtain ⟨hil, hxl⟩ := unhide HX
    obtain ⟨z1, z2, z3, z4, z5, z6, z7, z8⟩ := unhide HEQ
    obtain ⟨s1, s2, s3, s4⟩ := unhide HSMX
    have hC5 := (unhide HC5).later hb5
    have hle : (l[i]'hil).after.length ≤ 1000 := by rw [← hxl]; omega
    obtain ⟨ra, rc, W1, hrun, hgr, ⟨u, hu⟩, hfz, hF⟩ := hC5.more hil hle (s := [97]) (by unfold maxLen; simp) hg5 45
    rw [← hxl, ← z6, ← z7, ← z8] at hrun hgr
    rw [← hxl, ← z6] at hF
    rw [hW5] at hrun
    have hbe : ∀ b, pa = some b → g < b.block ∧ b.block < w2.heap.size := fun b hb => unhide HBK i b hil (by rw [← z7]; exact hb)
    have hpe : ∀ k, some k = (Value.slice pa pn pc).ownBlock → g < k ∧ k < w2.heap.size := fun k hk => by
      cases pa with
      | none => cases hk
      | some b =>
        have e : k = b.block := by simpa [Value.ownBlock] using hk
        rw [e]
        exact hbe b rfl
    have hbw5 := (unhide HB5).trans (hb5.mono (unhide HB5).size)
    have HB1 : Hid (Below w.heap.size w W1) := ⟨hgr.os.trans hbw5.os, hgr.tape.trans hbw5.tape, hgr.output.trans hbw5.output, Nat.le_trans hbw5.size hgr.size, fun k hk => (hgr.block k (Nat.lt_of_lt_of_le hk hbw5.size) (fun e => by have := hpe k e; have := unhide HG; omega)).trans (hbw5.block k hk)⟩
    have HKB : Hid (∀ k, w2.heap.size ≤ k → k < w5.heap.size → W1.heap[k]? = w5.heap[k]?) := fun k h1 h2 => (hgr.block k (Nat.lt_of_lt_of_le h2 hb5.size) (fun e => by have := hpe k e; omega)).trans (hb5.block k h2)
    have HRUN := hide hrun
    have HF := hide hF
    clear hb5 hg5 hxl z1 z2 z3 z4 z5 z6 z7 z8 s1 s2 s3 s4 hC5 hle hrun hgr hF hbe hpe hbw5 hil hW5
    go_wp2_with (at_builtin; refine Lib.wpList_append_run _ rfl _ _ 45 45 rfl _ _ rfl rfl _ _ (unhide HRUN) ?_)
    go_upto_region 23 with fail
    obtain ⟨W6, hW6⟩ : ∃ W6, W6 = W1.setCell ⟨g, i * 6 + 2, none⟩ (.slice ra (pn + 1) rc) := ⟨_, rfl⟩
    rw [← hW6]
    obtain ⟨hil, hxl⟩ := unhide HX
    have hb6 : Below w.heap.size w W6 := by rw [hW6]; exact (unhide HB1).setCell (p := ⟨g, _, none⟩) (unhide HG) _
    have hd6 := unhide HK W6 (fun k h1 h2 => by
      rw [hW6, Below.heap_setCell _ _ _ _ (by have := unhide HG5; show k ≠ g; omega)]
      exact unhide HKB k h1 h2)
    have hF6 : FragAt (fun _ => True) W6 (l.set i { x with after := x.after ++ [[97]] }) (.slice (some ⟨g, 0, none⟩) n2 cc) := by
      rw [hW6, unhide HN]
      exact unhide HF
    have hne : l.set i { x with after := x.after ++ [[97]] } ≠ l := set_ne_self hil (by
      rw [← hxl]
      intro h
      have := congrArg (fun y : FI => y.after.length) h
      simp at this)
    clear hxl hil
    have HE := hide (unhide HEND W6 _ hb6 hF6 hne hd6)
    clear hb6 hF6 hne hd6 hW6
    go_wp2_with fail
    refine (unhide HE W6 (Below.refl _ _)).1.mono ?_
    rintro e W7 ⟨rfl, hb7⟩
    have HB7 := hide hb7
    clear hb7
    go_wp2_with fail
    refine (unhide HE W7 (unhide HB7)).2.1.mono ?_
    rintro e W8 ⟨rfl, hb8⟩
    have HB8 := hide hb8
    clear hb8
    go_wp2_with fail
    refine (unhide HE W8 (unhide HB8)).2.2.1.mono ?_
    rintro e W9 ⟨rfl, hb9⟩
    have HB9 := hide hb9
    clear hb9
    go_wp2_with fail
    refine (unhide HE W9 (unhide HB9)).2.2.2.mono ?_
    rintro e W10 ⟨rfl, hb10⟩
    have HB10 := hide hb10
    clear hb10
    go_wp2_with fail
    go_ret
    exact ⟨rfl, unhide HB10⟩
  · have hzz : zo ++ ⟨#[122]⟩ = ⟨(x.over ++ [122]).toArray⟩ := by rw [(unhide HEQ).2.1]; exact str_app1 _ _
    have HZZ := hide hzz
    clear hzz
    have hzs : zo.size ≤ 100 := by rw [(unhide HEQ).2.1, str_size]; exact (unhide HSMX).2.1
    go_upto_region 23 with fail
    obtain ⟨W6, hW6⟩ : ∃ W6, W6 = w5.setCell ⟨g, i * 6 + 3, none⟩ (.string (zo ++ ⟨#[122]⟩)) := ⟨_, rfl⟩
    rw [← hW6]
    obtain ⟨hil, hxl⟩ := unhide HX
    obtain ⟨z1, z2, z3, z4, z5, -⟩ := unhide HEQ
    obtain ⟨q1, q2, q3, q4, q5⟩ := unhide HFT
    obtain ⟨s1, s2, s3, s4⟩ := unhide HSMX
    have hb6 : Below w.heap.size w W6 := by rw [hW6]; exact (unhide HB5).setCell (p := ⟨g, _, none⟩) (unhide HG) _
    have hd6 := unhide HK W6 (fun k h1 _ => by rw [hW6]; exact Below.heap_setCell _ _ _ _ (by have := unhide HG5; show k ≠ g; omega))
    have hF6 : FragAt (fun _ => True) W6 (l.set i { x with over := x.over ++ [122] }) (.slice (some ⟨g, 0, none⟩) n2 cc) := by
      rw [hW6, unhide HN, unhide HZZ]
      exact (unhide HC5).poke hil (by omega) (cells_set3 (unhide HCL) _) ⟨q1, q2, by show (x.over ++ [122]).length ≤ _; unfold maxLen; simp; omega, q4, q5⟩ (by show x.after = _; rw [hxl])
    have hne : l.set i { x with over := x.over ++ [122] } ≠ l := set_ne_self hil (by
      rw [← hxl]
      intro h
      have := congrArg (fun y : FI => y.over.length) h
      simp at this)
    clear z1 z2 z3 z4 z5 q1 q2 q3 q4 q5 s1 s2 s3 s4 hxl hil
    have HE := hide (unhide HEND W6 _ hb6 hF6 hne hd6)
    clear hb6 hF6 hne hd6 hW6
    go_wp2_with fail
    refine (unhide HE W6 (Below.refl _ _)).1.mono ?_
    rintro e W7 ⟨rfl, hb7⟩
    have HB7 := hide hb7
    clear hb7
    go_wp2_with fail
    refine (unhide HE W7 (unhide HB7)).2.1.mono ?_
    rintro e W8 ⟨rfl, hb8⟩
    have HB8 := hide hb8
    clear hb8
    go_wp2_with fail
    refine (unhide HE W8 (unhide HB8)).2.2.1.mono ?_
    rintro e W9 ⟨rfl, hb9⟩
    have HB9 := hide hb9
    clear hb9
    go_wp2_with fail
    refine (unhide HE W9 (unhide HB9)).2.2.2.mono ?_
    rintro e W10 ⟨rfl, hb10⟩
    have HB10 := hide hb10
    clear hb10
    go_wp2_with fail
    go_ret
    exact ⟨rfl, unhide HB10⟩
  · skip
    go_upto_region 23 with fail
    obtain ⟨W6, hW6⟩ : ∃ W6, W6 = w5.setCell ⟨g, i * 6 + 4, none⟩ (.int .i64 (wrap64 (wd + 1))) := ⟨_, rfl⟩
    rw [← hW6]
    obtain ⟨hil, hxl⟩ := unhide HX
    obtain ⟨z1, z2, z3, z4, z5, -⟩ := unhide HEQ
    obtain ⟨q1, q2, q3, q4, q5⟩ := unhide HFT
    obtain ⟨s1, s2, s3, s4⟩ := unhide HSMX
    have hb6 : Below w.heap.size w W6 := by rw [hW6]; exact (unhide HB5).setCell (p := ⟨g, _, none⟩) (unhide HG) _
    have hd6 := unhide HK W6 (fun k h1 _ => by rw [hW6]; exact Below.heap_setCell _ _ _ _ (by have := unhide HG5; show k ≠ g; omega))
    have hF6 : FragAt (fun _ => True) W6 (l.set i { x with width := wrap64 (wd + 1) }) (.slice (some ⟨g, 0, none⟩) n2 cc) := by
      rw [hW6, unhide HN]
      exact (unhide HC5).poke hil (by omega) (cells_set4 (unhide HCL) _) ⟨q1, q2, q3, by show InR (wrap64 (wd + 1)); unfold InR wrap64; omega, q5⟩ (by show x.after = _; rw [hxl])
    have hne : l.set i { x with width := wrap64 (wd + 1) } ≠ l := set_ne_self hil (by
      rw [← hxl]
      intro h
      have := congrArg (fun y : FI => y.width) h
      simp only [wrap64] at this
      omega)
    clear z1 z2 z3 z4 z5 q1 q2 q3 q4 q5 s1 s2 s3 s4 hxl hil
    have HE := hide (unhide HEND W6 _ hb6 hF6 hne hd6)
    clear hb6 hF6 hne hd6 hW6
    go_wp2_with fail
    refine (unhide HE W6 (Below.refl _ _)).1.mono ?_
    rintro e W7 ⟨rfl, hb7⟩
    have HB7 := hide hb7
    clear hb7
    go_wp2_with fail
    refine (unhide HE W7 (unhide HB7)).2.1.mono ?_
    rintro e W8 ⟨rfl, hb8⟩
    have HB8 := hide hb8
    clear hb8
    go_wp2_with fail
    refine (unhide HE W8 (unhide HB8)).2.2.1.mono ?_
    rintro e W9 ⟨rfl, hb9⟩
    have HB9 := hide hb9
    clear hb9
    go_wp2_with fail
    refine (unhide HE W9 (unhide HB9)).2.2.2.mono ?_
    rintro e W10 ⟨rfl, hb10⟩
    have HB10 := hide hb10
    clear hb10
    go_wp2_with fail
    go_ret
    exact ⟨rfl, unhide HB10⟩
  · skip
    go_upto_region 23 with fail
    obtain ⟨W6, hW6⟩ : ∃ W6, W6 = w5.setCell ⟨g, i * 6 + 5, none⟩ (.int .i64 (wrap64 (qt + 1))) := ⟨_, rfl⟩
    rw [← hW6]
    obtain ⟨hil, hxl⟩ := unhide HX
    obtain ⟨z1, z2, z3, z4, z5, -⟩ := unhide HEQ
    obtain ⟨q1, q2, q3, q4, q5⟩ := unhide HFT
    obtain ⟨s1, s2, s3, s4⟩ := unhide HSMX
    have hb6 : Below w.heap.size w W6 := by rw [hW6]; exact (unhide HB5).setCell (p := ⟨g, _, none⟩) (unhide HG) _
    have hd6 := unhide HK W6 (fun k h1 _ => by rw [hW6]; exact Below.heap_setCell _ _ _ _ (by have := unhide HG5; show k ≠ g; omega))
    have hF6 : FragAt (fun _ => True) W6 (l.set i { x with quota := wrap64 (qt + 1) }) (.slice (some ⟨g, 0, none⟩) n2 cc) := by
      rw [hW6, unhide HN]
      exact (unhide HC5).poke hil (by omega) (cells_set5 (unhide HCL) _) ⟨q1, q2, q3, q4, by show InR (wrap64 (qt + 1)); unfold InR wrap64; omega⟩ (by show x.after = _; rw [hxl])
    have hne : l.set i { x with quota := wrap64 (qt + 1) } ≠ l := set_ne_self hil (by
      rw [← hxl]
      intro h
      have := congrArg (fun y : FI => y.quota) h
      simp only [wrap64] at this
      omega)
    clear z1 z2 z3 z4 z5 q1 q2 q3 q4 q5 s1 s2 s3 s4 hxl hil
    have HE := hide (unhide HEND W6 _ hb6 hF6 hne hd6)
    clear hb6 hF6 hne hd6 hW6
    go_wp2_with fail
    refine (unhide HE W6 (Below.refl _ _)).1.mono ?_
    rintro e W7 ⟨rfl, hb7⟩
    have HB7 := hide hb7
    clear hb7
    go_wp2_with fail
    refine (unhide HE W7 (unhide HB7)).2.1.mono ?_
    rintro e W8 ⟨rfl, hb8⟩
    have HB8 := hide hb8
    clear hb8
    go_wp2_with fail
    refine (unhide HE W8 (unhide HB8)).2.2.1.mono ?_
    rintro e W9 ⟨rfl, hb9⟩
    have HB9 := hide hb9
    clear hb9
    go_wp2_with fail
    refine (unhide HE W9 (unhide HB9)).2.2.2.mono ?_
    rintro e W10 ⟨rfl, hb10⟩
    have HB10 := hide hb10
    clear hb10
    go_wp2_with fail
    go_ret
    exact ⟨rfl, unhide HB10⟩
  · by_cases hp0 : pn = 0
    · subst hp0
      go_wp2_with fail
      refine (unhide HAW _ (unhide HB5)).mono ?_
      rintro e W6 ⟨rfl, hb6⟩
      have HB6 := hide hb6
      clear hb6
      go_wp2_with fail
      go_ret
      exact ⟨rfl, unhide HB6⟩
    obtain ⟨hil, hxl⟩ := unhide HX
    obtain ⟨z1, z2, z3, z4, z5, z6, z7, z8⟩ := unhide HEQ
    obtain ⟨s1, s2, s3, s4⟩ := unhide HSMX
    have hpos : 0 < (l[i]'hil).after.length := by rw [← hxl, ← z6]; omega
    obtain ⟨b, hb1, hb2, hb3, hcb, hfb, hset⟩ := (unhide HC5).first hil hpos
    obtain rfl : pa = some ⟨b, 0, none⟩ := z7.trans hb1
    have HBB : Hid (g < b ∧ b < w2.heap.size) := unhide HBK i ⟨b, 0, none⟩ hil hb1
    obtain ⟨s0, hs0⟩ : ∃ s0, s0 = (l[i]'hil).after[0]'hpos := ⟨_, rfl⟩
    obtain ⟨zq, hzq⟩ : ∃ zq : ByteArray, zq = ⟨s0.toArray⟩ := ⟨_, rfl⟩
    rw [← hs0, ← hzq] at hcb
    have hs100 : s0.length ≤ 100 := by rw [hs0]; refine s4 _ ?_; rw [hxl]; exact List.getElem_mem hpos
    have hzs : zq.size ≤ 100 := by rw [hzq, str_size]; exact hs100
    have HZZ : Hid (zq ++ ⟨#[122]⟩ = ⟨(s0 ++ [122]).toArray⟩) := by show _ = _; rw [hzq]; exact str_app1 _ _
    have HSET := hide (hset (s0 ++ [122]) (by unfold maxLen; simp; omega))
    have HS0 : Hid (∃ h : 0 < x.after.length, s0 = x.after[0]'h) := ⟨by rw [hxl]; exact hpos, by simp only [hxl]; exact hs0⟩
    have hpn : 0 < pn := by omega
    have hpi : (0 : Int) < ((pn : Nat) : Int) := by omega
    have hpe : (((pn : Nat) : Int) == 0) = false := by rw [beq_eq_false_iff_ne]; omega
    clear hxl z1 z2 z3 z4 z5 z6 z7 z8 s1 s2 s3 s4 hpos hb1 hb2 hb3 hset hs0 hzq hs100
    go_upto_region 23 with fail
    obtain ⟨W6, hW6⟩ : ∃ W6, W6 = w5.setCell ⟨b, 0, none⟩ (.string (zq ++ ⟨#[122]⟩)) := ⟨_, rfl⟩
    rw [← hW6]
    obtain ⟨hil, hxl⟩ := unhide HX
    have hb6 : Below w.heap.size w W6 := by rw [hW6]; exact (unhide HB5).setCell (p := ⟨b, 0, none⟩) (by have := unhide HBB; have := unhide HG; show w.heap.size ≤ b; omega) _
    have hd6 := unhide HK W6 (fun k h1 _ => by rw [hW6]; exact Below.heap_setCell _ _ _ _ (by have := unhide HBB; show k ≠ b; omega))
    have hF6 : FragAt (fun _ => True) W6 (l.set i { (l[i]'hil) with after := (l[i]'hil).after.set 0 (s0 ++ [122]) }) (.slice (some ⟨g, 0, none⟩) n2 cc) := by
      rw [hW6, unhide HN, unhide HZZ]
      exact unhide HSET
    have hne : l.set i { (l[i]'hil) with after := (l[i]'hil).after.set 0 (s0 ++ [122]) } ≠ l := set_ne_self hil (by
      rw [← hxl]
      intro h
      obtain ⟨h0, hs0⟩ := unhide HS0
      have := congrArg (fun y : FI => y.after[0]?) h
      simp only at this
      rw [List.getElem?_set_self h0, List.getElem?_eq_getElem h0, ← hs0] at this
      have := congrArg List.length (Option.some.inj this)
      simp at this)
    clear hxl
    have HE := hide (unhide HEND W6 _ hb6 hF6 hne hd6)
    clear hb6 hF6 hne hd6 hW6
    go_wp2_with fail
    refine (unhide HE W6 (Below.refl _ _)).1.mono ?_
    rintro e W7 ⟨rfl, hb7⟩
    have HB7 := hide hb7
    clear hb7
    go_wp2_with fail
    refine (unhide HE W7 (unhide HB7)).2.1.mono ?_
    rintro e W8 ⟨rfl, hb8⟩
    have HB8 := hide hb8
    clear hb8
    go_wp2_with fail
    refine (unhide HE W8 (unhide HB8)).2.2.1.mono ?_
    rintro e W9 ⟨rfl, hb9⟩
    have HB9 := hide hb9
    clear hb9
    go_wp2_with fail
    refine (unhide HE W9 (unhide HB9)).2.2.2.mono ?_
    rintro e W10 ⟨rfl, hb10⟩
    have HB10 := hide hb10
    clear hb10
    go_wp2_with fail
    go_ret
    exact ⟨rfl, unhide HB10⟩
end Go.Proofs.Yteggocgfaejmbaa
