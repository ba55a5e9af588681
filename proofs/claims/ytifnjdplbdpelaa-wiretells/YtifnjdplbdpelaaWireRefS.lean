/- The document's numbers and texts (foremanref07): what its TakeText answers. No statement of the seat is proved here. -/
import Derived.Test.YtifnjdplbdpelaaWireRefT
import Derived.Test.YtifnjdplbdpelaaGen2
namespace Go.Proofs.Ytifnjdplbdpelaa
open Go.RowKit

/-- What the document's TakeText tells of bytes. -/
def RefText (bs : List UInt8) (most : Int) (e : Ending) : Prop :=
  (∃ (s : List UInt8) (k : Nat), ReadsT bs most s k ∧ e = .returned (.tuple #[.string ⟨s.toArray⟩, .int .i64 ((k + s.length : Nat) : Int), .bool true])) ∨
  (NoText bs most ∧ e = .returned (.tuple #[.string ⟨#[]⟩, .int .i64 0, .bool false]))

set_option maxRecDepth 100000 in
set_option maxHeartbeats 4000000 in
theorem wRefTakeText_any (u : Value) (bs : List UInt8) (most : Int) (w : World) (h : Bytes w u bs) (hl : bs.length ≤ 1048576) (hmost : InR most) : Calls Try.prog 13 #[u, .int .i64 most] w fun e w' => RefText bs most e ∧ w' = w := by
  obtain ⟨a, c, rfl, hlc⟩ := h.form
  obtain ⟨n, hn⟩ : ∃ n, n = bs.length := ⟨_, rfl⟩
  rw [← hn] at h hlc hl ⊢
  have HH := hide h
  have HN := hide hn
  have HMO := hide hmost
  clear h hn hmost
  go_enter Try.func13, Try.ntmps13
  go_wp2_with fail
  refine (wRefTakeNum_any _ bs _ (unhide HH) (by have := unhide HN; omega)).mono ?_
  rintro e w1 ⟨ht, hw⟩
  rw [hw]
  clear hw w1
  rcases ht with ⟨x, k, hr, rfl⟩ | ⟨hNo, rfl⟩
  · have HR := hide hr
    have hkn := hr.le
    rw [← unhide HN] at hkn
    have hk0 := hr.pos
    obtain ⟨hx1, hx2⟩ := hr.inr
    obtain ⟨d, hd⟩ : ∃ d : Nat, d = n - k := ⟨_, rfl⟩
    have hdi : ((n : Nat) : Int) - ((k : Nat) : Int) = ((d : Nat) : Int) := by omega
    have hdn : d ≤ 1048576 := by omega
    have hkb : (((k : Nat) : Int) == 0) = false := by rw [beq_eq_false_iff_ne]; omega
    have HKN := hide hkn
    have HD := hide hd
    have HK0 := hide hk0
    clear hr hkn hk0 hd
    by_cases hneg : x < 0
    · clear hdi
      go_wp2_with fail
      go_ret3
      exact ⟨.inr ⟨noText_of (unhide HR) (.inl hneg), rfl⟩, rfl⟩
    · by_cases hgm : x > most
      · clear hdi
        go_wp2_with fail
        go_ret3
        exact ⟨.inr ⟨noText_of (unhide HR) (.inr (.inl hgm)), rfl⟩, rfl⟩
      · by_cases hgd : x > ((d : Nat) : Int)
        · go_wp2_with fail
          go_ret3
          exact ⟨.inr ⟨noText_of (unhide HR) (.inr (.inr (by have := unhide HN; have := unhide HD; have := unhide HKN; omega))), rfl⟩, rfl⟩
        · obtain ⟨z, hz⟩ : ∃ z : Nat, x = ((z : Nat) : Int) := ⟨x.toNat, by omega⟩
          subst hz
          obtain ⟨E, hE⟩ : ∃ E : Nat, E = k + z := ⟨_, rfl⟩
          have hEi : ((k : Nat) : Int) + ((z : Nat) : Int) = ((E : Nat) : Int) := by omega
          have hEn : E ≤ n := by have := unhide HKN; have := unhide HD; omega
          have HE := hide hE
          have HRT : Hid (ReadsT bs most ((bs.drop k).take z) k) := by
            have := readsT_of (most := most) (unhide HR) (by omega) (by omega) (by have := unhide HN; have := unhide HD; have h3 := (unhide HR).le; omega)
            rw [Int.toNat_natCast] at this
            exact this
          have HTL : Hid (((bs.drop k).take z).length = z) := by show _ = _; rw [List.length_take, List.length_drop]; have := unhide HN; omega
          clear hE
          have hkE : k ≤ E := by have := unhide HE; omega
          go_wp2
          go_loopw [9, 10] (fun r i W => ∃ (j : Nat), k ≤ j ∧ j ≤ E ∧ i = .int .i64 ((j : Nat) : Int) ∧ r = .string ⟨((bs.drop k).take (j - k)).toArray⟩ ∧ W = w) (fun _ i _ => E - (intOf i).toNat)
          case atStart => exact ⟨k, Nat.le_refl _, hkE, rfl, by rw [Nat.sub_self, List.take_zero], rfl⟩
          case round =>
            obtain ⟨j, hj1, hj2, rfl, rfl, hw⟩ := hrel
            rw [hw]
            clear hw
            by_cases hlt : j < E
            · have hjE : ((j : Nat) : Int) < ((E : Nat) : Int) := by omega
              obtain ⟨sa, sc, hB, q, q', _⟩ := slice_mid (l := j) (h := j + 1) (unhide HH) (by omega) (by omega)
              rw [show j + 1 - j = 1 by omega] at hB q q'
              replace q : ∀ W : World, (Instr.slice 22 (.slice a n c) (some (.int .i64 ((j : Nat) : Int))) (some (.int .i64 (((j : Nat) : Int) + 1))) none).run Try.prog W = .ok (.slice sa 1 sc) W := fun W => q W
              replace q' : ∀ W : World, (Instr.sliceAt 22 (.slice a n c) (some (.int .i64 ((j : Nat) : Int))) (some (.int .i64 (((j : Nat) : Int) + 1))) none).run Try.prog W = .ok (.slice sa 1 sc) W := fun W => q' W
              have cv := run_convert_bytes (P := Try.prog) w 22 9 5 Try.underlying22 Try.underlying5 Try.underlying9 _ _ hB
              have hl1 : ((bs.drop k).take (j - k)).length = j - k := by rw [List.length_take, List.length_drop]; have := unhide HN; omega
              have hl2 : ((bs.drop j).take 1).length = 1 := by rw [List.length_take, List.length_drop]; have := unhide HN; omega
              have ad := run_string_add_lists (P := Try.prog) w ((bs.drop k).take (j - k)) ((bs.drop j).take 1) (by omega) (by omega)
              have hcat : (bs.drop k).take (j - k) ++ (bs.drop j).take 1 = (bs.drop k).take (j + 1 - k) := by
                rw [show j + 1 - k = (j - k) + 1 by omega, List.take_add, List.drop_drop, show k + (j - k) = j by omega]
              rw [hcat] at ad
              have HCV := hide cv
              generalize hs1 : (⟨((bs.drop k).take (j - k)).toArray⟩ : ByteArray) = s1 at *
              generalize hs2 : (⟨((bs.drop j).take 1).toArray⟩ : ByteArray) = s2 at *
              generalize hs3 : (⟨((bs.drop k).take (j + 1 - k)).toArray⟩ : ByteArray) = s3 at *
              have HS3 := hide hs3
              clear hs1 hs2 hs3 hB HCV hl1 hl2 hcat hneg hgm hgd
              go_wp2
              exact ⟨⟨j + 1, by omega, by omega, by go_num, by rw [unhide HS3], trivial⟩, by simp [intOf]; omega⟩
            · have e : j = E := by omega
              have hjE : ¬ ((j : Nat) : Int) < ((E : Nat) : Int) := by omega
              have HTE : Hid ((bs.drop k).take (j - k) = (bs.drop k).take z) := by show _ = _; rw [e, unhide HE, Nat.add_sub_cancel_left]
              rw [unhide HTE]
              generalize hs1 : (⟨((bs.drop k).take z).toArray⟩ : ByteArray) = s1 at *
              have HS1 := hide hs1
              clear hs1 e hneg hgm hgd
              go_wp2
              go_ret3
              refine ⟨.inl ⟨_, _, unhide HRT, ?_⟩, rfl⟩
              rw [unhide HTL, unhide HS1, ← unhide HE]
              rfl
  · go_wp2_with fail
    go_ret3
    exact ⟨.inr ⟨noText_of_noNum hNo, rfl⟩, rfl⟩
end Go.Proofs.Ytifnjdplbdpelaa
