/- The document's batches (foremanref04): what Scan answers. No statement of the seat is proved here. -/
import Derived.Test.YtbbglgfgelnncaaBatchRef
import Derived.Test.YtbbglgfgelnncaaRowsOwn
namespace Go.Proofs.Ytbbglgfgelnncaa
open Go.RowKit

/-- What Scan answers, in memory. -/
def ScanAt (w : World) (b : List UInt8) (e : Ending) (w' : World) : Prop := ∃ v bs n x, e = .returned (.tuple #[v, .int .i64 ((n : Nat) : Int), .int .i64 x]) ∧ ScanIs b bs n x ∧ BatchesAt w' v bs ∧ Below w.heap.size w w'

theorem recs_at {w : World} {a : Option Addr} {n c : Nat} {rs : List RecD} (h : RecsAt w (.slice a n c) rs) (hl : rs.length = n) {j : Nat} {r : RecD} (hr : rs[j]? = some r) : ∃ b o a' n' c', a = some ⟨b, o, none⟩ ∧ w.cell? ⟨b, o + 2 * j, none⟩ = some (.int .u8 (r.k.toNat : Nat)) ∧ w.cell? ⟨b, o + 2 * j + 1, none⟩ = some (.slice a' n' c') ∧ Bytes w (.slice a' n' c') r.d := by
  obtain ⟨hj, rfl⟩ := List.getElem?_eq_some_iff.1 hr
  obtain ⟨b, o, a', n', c', h1, h2, h3, h4⟩ := h.at (i := j) (by omega) hl
  have e : rs.getD j ⟨0, []⟩ = rs[j] := by rw [List.getD_eq_getElem?_getD, List.getElem?_eq_getElem hj]; rfl
  rw [e] at h2 h4
  exact ⟨b, o, a', n', c', h1, h2, h3, h4⟩
theorem puts_few (rs : List RecD) : rs.length ≤ (puts rs).length := by
  induction rs with
  | nil => simp [puts]
  | cons r rs ih => rw [puts_cons, List.length_append, put_len, List.length_cons]; omega
theorem le_pair {d : List UInt8} (h : d.length = 2) : ((d.getD 0 0).toNat : Int) + 256 * ((d.getD 1 0).toNat : Int) = ((le d : Nat) : Int) := by
  match d, h with
  | [x, y], _ =>
    show (x.toNat : Int) + 256 * (y.toNat : Int) = ((x.toNat + 256 * (y.toNat + 256 * 0) : Nat) : Int)
    omega

set_option maxRecDepth 100000 in
set_option maxHeartbeats 8000000 in
theorem refScan_any (a : Option Addr) (n c : Nat) (b : List UInt8) (w : World) (h : Bytes w (.slice a n c) b) (hl : n ≤ 1048576) : Calls Try.prog 17 #[.slice a n c] w fun e w' => ScanAt w b e w' := by
  have HBL := hide (bytes_len h).1
  have HH := hide h
  clear h
  go_enter Try.func17, Try.ntmps17
  go_wp2_with fail
  refine (refAll_any a n c b _ (unhide HH) hl).mono ?_
  rintro e w1 ⟨l1, rs, m, x, rfl, hA, hR⟩
  have HA := hide hA
  have HB1 := hide hR.bb
  have HRS := hide hR.recsAt
  obtain ⟨la, lc, el, _⟩ := hR.recsAt.form
  subst el
  have HDN := hide hA.done
  have HPU := hide hA.puts
  have hrl : rs.length ≤ 1048576 := by have := hA.few; have := unhide HBL; omega
  obtain ⟨N, hN⟩ : ∃ N, N = rs.length := ⟨_, rfl⟩
  rw [← hN] at HRS hrl ⊢
  have HN := hide hN
  clear hA hR hN
  go_wp2_with fail
  go_loopw [8, 9, 10, 11, 12] (fun vo vk at' en i W => ∃ (j atn enn : Nat) (out : List (List (List UInt8))) (kept : List (List UInt8)), j ≤ N ∧ i = .int .i64 j ∧ at' = .int .i64 ((atn : Nat) : Int) ∧ en = .int .i64 ((enn : Nat) : Int) ∧ atn = (puts (rs.take j)).length ∧ out.length ≤ j ∧ kept.length ≤ 1024 ∧ ScanSt w1 vo out vk kept W ∧ scanGo (finErr x) rs [] [] 0 0 = scanGo (finErr x) (rs.drop j) out kept atn enn) (fun _ _ _ _ i _ => N - (intOf i).toNat)
  case atStart => exact ⟨0, 0, 0, [], [], Nat.zero_le _, rfl, rfl, rfl, by simp [puts], Nat.zero_le _, by simp, ScanSt.start w1, by simp⟩
  case round =>
    obtain ⟨j, atn, enn, out, kept, hj, rfl, rfl, rfl, hat, hol, hkl, hS, hgo⟩ := hrel
    have HAT := hide hat
    have HS := hide hS
    have HGO := hide hgo
    clear hat hS hgo
    obtain ⟨ka, kc, ek⟩ := (unhide HS).rows.form
    obtain ⟨oa, oc, eo⟩ := (unhide HS).formO
    subst ek eo
    by_cases hlt : j < N
    · obtain ⟨r, hr⟩ : ∃ r, rs[j]? = some r := some_get (by have := unhide HN; omega)
      obtain ⟨b1, o1, d1, nd, k1, e1, x1, x2, x3⟩ := recs_at ((unhide HRS).later (unhide HS).bb) (unhide HN).symm hr
      have X0 : Hid (Bytes w1 (.slice d1 nd k1) r.d) := by
        obtain ⟨b1', o1', d1', nd', k1', e1', x1', x2', x3'⟩ := recs_at (unhide HRS) (unhide HN).symm hr
        rw [e1'] at e1
        cases e1
        have h2 := ((unhide HS).bb.cell (p := ⟨b1, o1 + 2 * j + 1, none⟩) (World.block_lt_of_cell? _ _ x2')).trans x2'
        rw [h2] at x2
        cases x2
        exact x3'
      subst e1
      have HDL := hide (bytes_len x3).1
      have hdrop : rs.drop j = r :: rs.drop (j + 1) := by
        obtain ⟨hj2, rfl⟩ := List.getElem?_eq_some_iff.1 hr
        exact List.drop_eq_getElem_cons hj2
      have hat2 : (puts (rs.take (j + 1))).length = atn + (9 + nd) := by
        obtain ⟨hj2, hre⟩ := List.getElem?_eq_some_iff.1 hr
        rw [List.take_succ_eq_append_getElem hj2, puts_snoc, List.length_append, put_len, hre, ← unhide HAT, unhide HDL]
      have hbd : atn + (9 + nd) ≤ 1048576 := by
        have h1 := puts_len_take rs (j + 1)
        rw [hat2, (unhide HPU).1, List.length_take] at h1
        have := unhide HBL
        omega
      have HAT2 := hide hat2
      have i1 : (j : Int) < (N : Int) := by omega
      have e2j : j * 2 = 2 * j := by omega
      have X3 := hide x3
      have HGO2 := unhide HGO
      rw [hdrop, scanGo, unhide HDL] at HGO2
      have HG := hide HGO2
      clear x3 hat2 hdrop HGO2 HGO hr
      obtain ⟨nk, hnk⟩ : ∃ nk, nk = kept.length := ⟨_, rfl⟩
      rw [← hnk] at HS HG hkl ⊢
      have HNK := hide hnk
      clear hnk
      by_cases hk1 : r.k = 1
      · have hkb : (((r.k.toNat : Nat) : Int) == 1) = true := by rw [hk1]; rfl
        rw [if_pos hk1] at HG
        clear hk1
        by_cases hk4 : nk = 1024
        · rw [if_pos hk4] at HG
          have hk4' : (nk : Int) = 1024 := by omega
          subst hk4
          go_wp2_with fail
          go_ret3
          exact ⟨_, out, enn, 34, rfl, ⟨rs, m, x, unhide HA, unhide HG⟩, (unhide HS).batches, (unhide HB1).trans ((unhide HS).bb.mono (unhide HB1).size)⟩
        · rw [if_neg hk4] at HG
          have hk4' : ((nk : Int) == 1024) = false := beq_eq_false_iff_ne.2 (by omega)
          have HS1 := hide ((unhide HS).alloc (.cells #[.slice d1 nd k1] 23))
          go_wp2_with (at_builtin; refine wpList_append_kept rfl _ _ rfl _ _ (.slice d1 nd k1) _ _ r.d wr.heap.size 1 rfl (unhide HS1) rfl (by simp) rfl (unhide X0) (by rw [← unhide HNK]; omega) ?_)
          rintro v9 w9 hS9
          have HS9 := hide hS9
          clear hS9 HS HS1
          go_wp2_with fail
          exact ⟨⟨j + 1, atn + (9 + nd), enn, out, kept ++ [r.d], by omega, by go_num, by go_num, rfl, (unhide HAT2).symm, by omega, by rw [List.length_append, List.length_singleton, ← unhide HNK]; omega, unhide HS9, unhide HG⟩, by simp [intOf]; omega⟩
      · have hkb : (((r.k.toNat : Nat) : Int) == 1) = false := beq_eq_false_iff_ne.2 fun e => hk1 (UInt8.toNat_inj.1 (by show r.k.toNat = 1; omega))
        rw [if_neg hk1] at HG
        clear hk1
        have hbad : (nk = 0 ∨ nd ≠ 2 ∨ le r.d ≠ nk) → scanGo (finErr x) rs [] [] 0 0 = (out, enn, 34) := fun hb => by
          have := unhide HG
          rwa [if_pos hb] at this
        have HBAD := hide hbad
        clear hbad
        have hne : Nonempty (Later wr) := ⟨⟨wr, Below.refl _ _⟩⟩
        by_cases hk0 : nk = 0
        · subst hk0
          have HBD2 := hide (unhide HBAD (.inl rfl))
          go_upto_region 14 with fail
          clear x1 x2
          refine wp_region_later (by kernel_rfl) ?_
          repeat (go_big_quiet_step (fail))
          refine wpQuiet_nil ?_
          rintro _ ⟨q, rfl⟩
          have HS2 := hide ((unhide HS).later q.2)
          generalize q.1 = W2 at *
          go_wp2_with fail
          go_ret3
          exact ⟨_, out, enn, 34, rfl, ⟨rs, m, x, unhide HA, unhide HBD2⟩, (unhide HS2).batches, (unhide HB1).trans ((unhide HS2).bb.mono (unhide HB1).size)⟩
        · have hk0' : ((nk : Int) == 0) = false := beq_eq_false_iff_ne.2 (by omega)
          by_cases hd2 : nd = 2
          · subst hd2
            obtain ⟨ad, ead, hc0⟩ := (unhide X3).at (i := 0) (by omega) (unhide HDL)
            subst ead
            obtain ⟨ad', ead', hc1⟩ := (unhide X3).at (i := 1) (by omega) (unhide HDL)
            cases ead'
            have HLP := hide (le_pair (unhide HDL))
            have hy0 := (r.d.getD 0 0).toNat_lt
            have hy1 := (r.d.getD 1 0).toNat_lt
            generalize (r.d.getD 0 0).toNat = y0 at *
            generalize (r.d.getD 1 0).toNat = y1 at *
            rw [Addr.add_zero'] at hc0
            obtain ⟨gb, go, spot⟩ := ad
            have hspot : spot = none := by simpa using World.cell?_spot hc0
            subst hspot
            rw [Addr.add_mid] at hc1
            have lc0 := Later.cell hc0
            have lc1 := Later.cell hc1
            obtain ⟨L, hL⟩ : ∃ L, L = le r.d := ⟨_, rfl⟩
            rw [← hL] at HLP HG HBAD
            clear hL hc0 hc1
            by_cases hle : L = nk
            · have hsum : (y0 : Int) + 256 * (y1 : Int) = (nk : Int) := by rw [unhide HLP, hle]
              rw [if_neg (by omega)] at HG
              go_upto_region 14 with fail
              clear x1 x2
              refine wp_region_later (by kernel_rfl) ?_
              repeat (go_big_quiet_step (fail))
              refine wpQuiet_nil ?_
              rintro _ ⟨q, rfl⟩
              have HS2 := hide ((unhide HS).later q.2)
              generalize q.1 = W2 at *
              have HS3 := hide ((unhide HS2).alloc (.cells #[.slice ka nk kc] 22))
              go_wp2_with (at_builtin; refine wpList_append_out rfl _ _ rfl _ (.slice ka nk kc) _ _ W2.heap.size 1 rfl (unhide HS3) rfl (by simp) rfl (by omega) ?_)
              rintro v9 w9 hS9
              have HS9 := hide hS9
              clear hS9 HS HS2 HS3
              go_wp2_with fail
              exact ⟨⟨j + 1, atn + (9 + 2), atn + (9 + 2), out ++ [kept], [], by omega, by go_num, by go_num, by go_num, (unhide HAT2).symm, by rw [List.length_append, List.length_singleton]; omega, by simp, unhide HS9, unhide HG⟩, by simp [intOf]; omega⟩
            · have hsum : ((y0 : Int) + 256 * (y1 : Int) != (nk : Int)) = true := bne_iff_ne.2 (by rw [unhide HLP]; omega)
              have HBD2 := hide (unhide HBAD (.inr (.inr hle)))
              go_upto_region 14 with fail
              clear x1 x2
              refine wp_region_later (by kernel_rfl) ?_
              repeat (go_big_quiet_step (fail))
              refine wpQuiet_nil ?_
              rintro _ ⟨q, rfl⟩
              have HS2 := hide ((unhide HS).later q.2)
              generalize q.1 = W2 at *
              go_wp2_with fail
              go_ret3
              exact ⟨_, out, enn, 34, rfl, ⟨rs, m, x, unhide HA, unhide HBD2⟩, (unhide HS2).batches, (unhide HB1).trans ((unhide HS2).bb.mono (unhide HB1).size)⟩
          · have hd2' : ((nd : Int) != 2) = true := bne_iff_ne.2 (by omega)
            have HBD2 := hide (unhide HBAD (.inr (.inl hd2)))
            go_upto_region 14 with fail
            clear x1 x2
            refine wp_region_later (by kernel_rfl) ?_
            repeat (go_big_quiet_step (fail))
            refine wpQuiet_nil ?_
            rintro _ ⟨q, rfl⟩
            have HS2 := hide ((unhide HS).later q.2)
            generalize q.1 = W2 at *
            go_wp2_with fail
            go_ret3
            exact ⟨_, out, enn, 34, rfl, ⟨rs, m, x, unhide HA, unhide HBD2⟩, (unhide HS2).batches, (unhide HB1).trans ((unhide HS2).bb.mono (unhide HB1).size)⟩
    · have ej : N = j := by omega
      subst ej
      have HG : Hid (scanGo (finErr x) rs [] [] 0 0 = (out, enn, finErr x kept.length)) := by
        have h := unhide HGO
        rw [List.drop_of_length_le (by rw [unhide HN]; exact Nat.le_refl _)] at h
        exact h
      have hdn := unhide HDN
      rw [unhide HBL] at hdn
      obtain ⟨nk, hnk⟩ : ∃ nk, nk = kept.length := ⟨_, rfl⟩
      rw [← hnk] at HS HG ⊢
      clear hnk HGO
      have HFIN : Hid (∀ x', finErr x nk = x' → ScanIs b out enn x') := fun x' hx => by
        have h := unhide HG
        rw [hx] at h
        exact ⟨rs, m, x, unhide HA, h⟩
      by_cases hx0 : x = 0
      · have hm := hdn.1 hx0
        subst hx0 hm
        by_cases hk0 : nk = 0
        · subst hk0
          have HSC := hide (unhide HFIN 0 (if_neg (by omega)))
          go_wp2_with fail
          go_ret3
          exact ⟨_, out, enn, 0, rfl, unhide HSC, (unhide HS).batches, (unhide HB1).trans ((unhide HS).bb.mono (unhide HB1).size)⟩
        · have hk0' : (nk : Int) > 0 := by omega
          have HSC := hide (unhide HFIN 32 (if_pos ⟨rfl, by omega⟩))
          go_wp2_with fail
          go_ret3
          exact ⟨_, out, enn, 32, rfl, unhide HSC, (unhide HS).batches, (unhide HB1).trans ((unhide HS).bb.mono (unhide HB1).size)⟩
      · have hxb : (x == 0) = false := beq_eq_false_iff_ne.2 hx0
        have HSC := hide (unhide HFIN x (if_neg (fun h => hx0 h.1)))
        go_wp2_with fail
        go_ret3
        exact ⟨_, out, enn, x, rfl, unhide HSC, (unhide HS).batches, (unhide HB1).trans ((unhide HS).bb.mono (unhide HB1).size)⟩
end Go.Proofs.Ytbbglgfgelnncaa
